/- A place more in an asker's row. -/
import Derived.Test.YteenbebpdibbcaaP6
namespace Go.Proofs.Yteenbebpdibbcaa
open Go.RowKit
set_option maxRecDepth 100000

theorem add_at (g o j : Nat) : (⟨g, o, none⟩ : Addr).add j = ⟨g, o + j, none⟩ := by unfold Addr.add; split <;> simp_all
/-- A row that is appended to is the old one's block or a new one. -/
theorem append_ptr {w : World} {base : Nat} {v : Value} {n : Nat} {l : List Nat} {k g : Nat} (hown : w.ownsRow base 91 1 v n (l.map PN)) (hg0 : w.cell? ⟨g, 0, none⟩ = some (PN k)) (hs : SeesL aC 1 w (.slice (some ⟨g, 0, none⟩) 1 1) [k]) (hl : n + 1 ≤ 4398046511104) (hbase : base ≤ w.heap.size) (ty : TypeId) :
    ∃ ao cap w', (Builtin.append_ #[87, 87] ty #[v, .slice (some ⟨g, 0, none⟩) 1 1]).run Try.prog w = .ok (.slice ao (n + 1) cap) w' ∧ w'.ownsRow base 91 1 (.slice ao (n + 1) cap) (n + 1) ((l ++ [k]).map PN) ∧ w.grownBy w' v.ownBlock ∧ ∀ b, (Value.slice ao (n + 1) cap).ownBlock = some b → v.ownBlock = some b ∨ w.heap.size ≤ b := by
  obtain ⟨i, hi, hz, hs1, hby⟩ := info_parts Try.info91
  rw [← flat_aC] at hown
  obtain ⟨v', w', hr, h2, h3⟩ := run_append_L (P := Try.prog) aC_len aC_one base 87 ty 91 i _ 8 Try.underlying87 hi hz hs1 hby rfl (by decide) hown hs (by unfold maxLen; simp; omega) (by simp; omega) hbase
  have hlen : n + [k].length = n + 1 := rfl
  rw [hlen] at h2
  rw [← List.flatMap_append, flat_aC] at h2
  obtain ⟨ao, cap, hv⟩ := own_shape h2
  subst hv
  refine ⟨ao, cap, w', hr, h2, h3, fun b hb => ?_⟩
  have hnews : ∀ j u, (aC k)[j]? = some u → w.cell? ((⟨g, 0, none⟩ : Addr).add j) = some u := fun j u hu => by
    obtain ⟨hj, _⟩ := List.getElem?_eq_some_iff.1 hu
    rw [aC_len] at hj
    obtain rfl : j = 0 := by omega
    have : u = PN k := (Option.some.inj hu).symm
    rw [add_at, this]; exact hg0
  rcases hown.2 with ⟨rfl, rfl⟩ | ⟨g', cap', cur, rfl, hbg, hg, hnc, hcm, hcs, htake⟩
  · have hr2 := run_append_nil (P := Try.prog) w 87 ty 91 i _ Try.underlying87 hi hz ⟨g, 0, none⟩ 1 1 (aC k) (by rw [hs1]; rfl) hnews (by omega) (by omega) (by rw [hby]; omega)
    rw [hr2] at hr
    simp only [Result.ok.injEq] at hr
    rw [← hr.1] at hb
    simp only [Value.ownBlock, Option.some.injEq] at hb
    exact .inr (by omega)
  · by_cases hroom : n + 1 ≤ cap'
    · have hr2 := run_append_room (P := Try.prog) w 87 ty 91 i Try.underlying87 hi g' n cap' cur hg ⟨g, 0, none⟩ 1 1 (aC k) (by rw [hs1]; rfl) hnews (aC_one k) hroom (by rw [hs1, hcs, aC_len, ← Nat.succ_mul]; exact Nat.mul_le_mul_right _ hroom)
      rw [hr2] at hr
      simp only [Result.ok.injEq] at hr
      rw [← hr.1] at hb
      exact .inl hb
    · have hr2 := run_append_grow (P := Try.prog) w 87 ty 91 i _ Try.underlying87 hi hz ⟨g', 0, none⟩ n cap' (l.flatMap aC) (by rw [hs1]; exact hown.1) (hown.cells (g := g') rfl) ⟨g, 0, none⟩ 1 1 (aC k) (by rw [hs1]; rfl) hnews (by omega) (by omega) (growslice_fits (by omega) (by rw [hby]; omega))
      rw [hr2] at hr
      simp only [Result.ok.injEq] at hr
      rw [← hr.1] at hb
      simp only [Value.ownBlock, Option.some.injEq] at hb
      exact .inr (by omega)
theorem Mem.push {B : Nat → Prop} {lb mq mp : Nat} {w : World} {S : Sto} (h : Mem B lb mq mp w S) (hB : ∀ j, w.heap.size ≤ j → B j) {b : Nat} {A : Ak} (hb : S.ak b = some A) (p : Nat) (hl : A.cl.length + 1 ≤ 4398046511104) :
    ∃ a0 c0 v' y, A.v = .slice a0 A.cl.length c0 ∧ (∃ a1 m1 c1, v' = .slice a1 m1 c1) ∧ (Builtin.append_ #[87, 87] 87 #[A.v, .slice (some ⟨w.heap.size, 0, none⟩) 1 1]).run Try.prog (w.alloc (.cells #[PN p] 91)) = .ok v' y ∧ y.cell? ⟨b, 3, none⟩ = some A.v ∧ y.frozen? ⟨b, 3, none⟩ = false ∧
      Mem B lb mq mp (y.setCell ⟨b, 3, none⟩ v') { S with ak := md S.ak b fun A => { A with v := v', cl := A.cl ++ [p] } } ∧ Upd B w.heap.size w (y.setCell ⟨b, 3, none⟩ v') := by
  obtain ⟨Z, hZ⟩ : ∃ z, w.alloc (.cells #[PN p] 91) = z := ⟨_, rfl⟩
  have bZ : Below w.heap.size w Z := hZ ▸ below_box _
  have zZ : Z.heap.size = w.heap.size + 1 := by rw [← hZ]; simp
  have hm := h.below bZ
  obtain ⟨ho, hoB⟩ := hm.row b A hb
  have hone : SeesL aC 1 Z (.slice (some ⟨w.heap.size, 0, none⟩) 1 1) [p] := hZ ▸ sees_oneA w p 91
  obtain ⟨a0, c0, hv⟩ := own_shape ho
  obtain ⟨ao, cap, y, hr, h2, h3, h4⟩ := append_ptr ho (by rw [← hZ]; exact cell_at (heap_alloc_new w _)) hone hl (Nat.zero_le _) 87
  rw [hZ]
  have hfar : ∀ {j : Nat} {cs : Array Value} {T : TypeId}, Z.heap[j]? = some (.cells cs T) → T ≠ 91 → y.heap[j]? = Z.heap[j]? := fun {j cs T} hj hT => h3.block j (lt_of hj) fun e => by
    obtain ⟨cur, hc⟩ := own_in ho e.symm
    exact ne_ty hc hj hT rfl
  have hyb : y.heap[b]? = some (.cells (akC A) 89) := (hfar (hm.ak b A hb).1 (by decide)).trans (hm.ak b A hb).1
  obtain ⟨v', hv'⟩ : ∃ v', Value.slice ao (A.cl.length + 1) cap = v' := ⟨_, rfl⟩
  rw [hv'] at hr h2 h4
  have sfar : ∀ j, j ≠ b → (y.setCell ⟨b, 3, none⟩ v').heap[j]? = y.heap[j]? := fun j hj => setCell_far hj
  have both : ∀ {j : Nat} {cs : Array Value} {T : TypeId}, Z.heap[j]? = some (.cells cs T) → T ≠ 91 → T ≠ 89 → (y.setCell ⟨b, 3, none⟩ v').heap[j]? = Z.heap[j]? := fun {j cs T} hj hT hT' => (sfar j (ne_ty (hm.ak b A hb).1 hj hT')).trans (hfar hj hT)
  have mapfar : ∀ {j : Nat}, (∀ {g : Nat} {cs : Array Value} {T : TypeId}, Z.heap[g]? = some (.cells cs T) → g ≠ j) → j < Z.heap.size → (y.setCell ⟨b, 3, none⟩ v').heap[j]? = Z.heap[j]? := fun {j} hap hj => (sfar j (hap (hm.ak b A hb).1).symm).trans (h3.block j hj fun e => by
    obtain ⟨cur, hc⟩ := own_in ho e.symm
    exact hap hc rfl)
  have hself : md S.ak b (fun A => { A with v := v', cl := A.cl ++ [p] }) b = some { A with v := v', cl := A.cl ++ [p] } := by rw [md_at, hb]; rfl
  have hoth : ∀ x, x ≠ b → md S.ak b (fun A => { A with v := v', cl := A.cl ++ [p] }) x = S.ak x := fun x hx => md_far _ _ hx
  refine ⟨a0, c0, v', y, hv, ⟨_, _, _, hv'.symm⟩, hr, cell_at hyb, frozen_of_heap hyb, ⟨(both hm.top (by decide) (by decide)).trans hm.top, fun x d hd => ⟨(both (hm.cs x d hd).1 (by decide) (by decide)).trans (hm.cs x d hd).1, (hm.cs x d hd).2⟩, fun x d hd => ⟨(both (hm.sp x d hd).1 (by decide) (by decide)).trans (hm.sp x d hd).1, (hm.sp x d hd).2⟩, fun x d hd => ?_, fun x d hd => ⟨(both (hm.ln x d hd).1 (by decide) (by decide)).trans (hm.ln x d hd).1, (hm.ln x d hd).2⟩, fun x d hd => ?_, fun x d x' d' g hd hd' e e' => ?_, hm.q.keep (mapfar (fun {g cs T} hg => hm.q.apart hg) hm.q.lt), hm.p.keep (mapfar (fun {g cs T} hg => hm.p.apart hg) hm.p.lt), h.bt⟩, ?_⟩
  · replace hd : md S.ak b (fun A => { A with v := v', cl := A.cl ++ [p] }) x = some d := hd
    by_cases e : x = b
    · subst e
      rw [hself] at hd
      injection hd with hd
      subst hd
      refine ⟨?_, (hm.ak x A hb).2⟩
      rw [heap_setCell_same y x 3 _ 89 v' hyb]; rfl
    · rw [hoth x e] at hd
      exact ⟨(sfar x e).trans ((hfar (hm.ak x d hd).1 (by decide)).trans (hm.ak x d hd).1), (hm.ak x d hd).2⟩
  · replace hd : md S.ak b (fun A => { A with v := v', cl := A.cl ++ [p] }) x = some d := hd
    by_cases e : x = b
    · subst e
      rw [hself] at hd
      injection hd with hd
      subst hd
      refine ⟨?_, fun g hg => ?_⟩
      · show World.ownsRow _ 0 91 1 v' (A.cl ++ [p]).length ((A.cl ++ [p]).map PN)
        rw [List.length_append]
        exact own_box hyb (by decide) sfar h2
      · rcases h4 g hg with c | c
        · exact hoB g c
        · exact hB g (by omega)
    · rw [hoth x e] at hd
      obtain ⟨r1, r2⟩ := hm.row x d hd
      refine ⟨own_box hyb (by decide) sfar (own_keep r1 fun g hg => h3.block g ?_ fun e' => ?_), r2⟩
      · obtain ⟨cur, hc⟩ := own_in r1 hg
        exact lt_of hc
      · exact e (hm.ap x d b A g hd hb hg e'.symm)
  · replace hd : md S.ak b (fun A => { A with v := v', cl := A.cl ++ [p] }) x = some d := hd
    replace hd' : md S.ak b (fun A => { A with v := v', cl := A.cl ++ [p] }) x' = some d' := hd'
    have key : ∀ z dz, z ≠ b → S.ak z = some dz → dz.v.ownBlock = some g → v'.ownBlock = some g → False := fun z dz hz hdz e1 e2 => by
      rcases h4 g e2 with c | c
      · exact hz (hm.ap z dz b A g hdz hb e1 c)
      · obtain ⟨cur, hc⟩ := own_in (hm.row z dz hdz).1 e1
        have := lt_of hc
        omega
    by_cases ex : x = b
    · by_cases ex' : x' = b
      · rw [ex, ex']
      · subst ex
        rw [hself] at hd
        injection hd with hd
        subst hd
        rw [hoth x' ex'] at hd'
        exact (key x' d' ex' hd' e' e).elim
    · rw [hoth x ex] at hd
      by_cases ex' : x' = b
      · subst ex'
        rw [hself] at hd'
        injection hd' with hd'
        subst hd'
        exact (key x d ex hd e e').elim
      · rw [hoth x' ex'] at hd'
        exact hm.ap x d x' d' g hd hd' e e'
  · refine ((Upd.of bZ).trans ⟨h3.os, h3.tape, h3.output, h3.size, fun k hk hs => h3.block k (by omega) fun e => hs (hoB k e.symm)⟩).setCell (p := ⟨b, 3, none⟩) (.inl (h.ak b A hb).2) _
end Go.Proofs.Yteenbebpdibbcaa
