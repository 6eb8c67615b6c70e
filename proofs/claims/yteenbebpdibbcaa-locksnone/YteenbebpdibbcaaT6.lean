/- Release: what stands around its loops. -/
import Derived.Test.YteenbebpdibbcaaT5
namespace Go.Proofs.Yteenbebpdibbcaa
open Go.RowKit
set_option maxRecDepth 100000

def iC (k : Ky) : List Value := [.int .i64 k.1, .int .i64 k.2]
theorem iC_len (x : Ky) : (iC x).length = 2 := rfl
theorem iC_one (x : Ky) : ∀ u ∈ iC x, u.oneCell' = true := by
  intro u hu
  simp only [iC, List.mem_cons, List.not_mem_nil, or_false] at hu
  rcases hu with rfl | rfl <;> rfl
theorem Try.info29 : (Try.prog.info? 29).map (fun i => (i.zero, i.size, i.bytes)) = some (some (.agg #[.int .i64 0, .int .i64 0]), 2, 16) := by kernel_rfl
theorem append_is {w : World} {base : Nat} {v v2 : Value} {n : Nat} {l l2 : List Ky} (ty : TypeId) (hown : w.ownsRow base 29 2 v n (l.flatMap iC)) (hs : SeesL iC 2 w v2 l2) (hl : n + l2.length ≤ 4398046511104) (hbase : base ≤ w.heap.size) :
    ∃ v' w', (Builtin.append_ #[39, 39] ty #[v, v2]).run Try.prog w = .ok v' w' ∧ w'.ownsRow base 29 2 v' (n + l2.length) ((l ++ l2).flatMap iC) ∧ w.grownBy w' v.ownBlock := by
  obtain ⟨i, hi, hz, hs1, hb⟩ := info_parts Try.info29
  rw [List.flatMap_append]
  exact run_append_L iC_len iC_one base 39 ty 29 i _ 16 Try.underlying39 hi hz hs1 hb rfl (by decide) hown hs (by unfold maxLen; omega) (by omega) hbase
theorem sees_oneI (w : World) (k : Ky) : SeesL iC 2 (w.alloc (.cells #[.int .i64 k.1, .int .i64 k.2] 29)) (.slice (some ⟨w.heap.size, 0, none⟩) 1 1) [k] := by
  refine ⟨_, _, w.heap.size, 0, rfl, Nat.le_refl _, by simp, fun h => by simp at h, fun _ => rfl, fun t x h j hj => ?_⟩
  obtain rfl : t = 0 := by
    have := (List.getElem?_eq_some_iff.1 h).1
    simp at this; omega
  simp only [List.getElem?_cons_zero, Option.some.injEq] at h
  subst h
  rw [cell_at (heap_alloc_new w _)]
  rcases (by omega : j = 0 ∨ j = 1) with rfl | rfl <;> rfl
def idB (S : Sto) (b : Nat) : Ky := match S.ak b with
  | some A => A.id
  | none => (0, 0)
section
variable {B : Nat → Prop} {lb mq mp : Nat} {w w' : World} {S : Sto}
theorem Mem.gr' (h : Mem B lb mq mp w S) {base n : Nat} {v : Value} {xs : List Value} (ho : w.ownsRow base 29 2 v n xs) (hg : w.grownBy w' v.ownBlock) : Mem B lb mq mp w' S := by
  have far : ∀ {j : Nat} {cs : Array Value} {T' : TypeId}, w.heap[j]? = some (.cells cs T') → T' ≠ 29 → w'.heap[j]? = w.heap[j]? := fun {j cs T'} hj hne => hg.block j (lt_of hj) fun e => by
    obtain ⟨cur, hc⟩ := own_in ho e.symm
    exact ne_ty hc hj hne rfl
  have hT : (29 : Nat) ≠ 74 ∧ (29 : Nat) ≠ 109 ∧ (29 : Nat) ≠ 101 ∧ (29 : Nat) ≠ 89 ∧ (29 : Nat) ≠ 130 ∧ (29 : Nat) ≠ 91 := by decide
  refine ⟨(far h.top (Ne.symm hT.1)).trans h.top, fun b c e => ⟨(far (h.cs b c e).1 (Ne.symm hT.2.1)).trans (h.cs b c e).1, (h.cs b c e).2⟩, fun b c e => ⟨(far (h.sp b c e).1 (Ne.symm hT.2.2.1)).trans (h.sp b c e).1, (h.sp b c e).2⟩, fun b c e => ⟨(far (h.ak b c e).1 (Ne.symm hT.2.2.2.1)).trans (h.ak b c e).1, (h.ak b c e).2⟩, fun b c e => ⟨(far (h.ln b c e).1 (Ne.symm hT.2.2.2.2.1)).trans (h.ln b c e).1, (h.ln b c e).2⟩, fun b c e => ⟨own_keep (h.row b c e).1 fun g hg' => ?_, (h.row b c e).2⟩, h.ap, h.q.keep (hg.block _ h.q.lt fun e => ?_), h.p.keep (hg.block _ h.p.lt fun e => ?_), h.bt⟩
  · obtain ⟨cur, hc⟩ := own_in (h.row b c e).1 hg'
    exact far hc (Ne.symm hT.2.2.2.2.2)
  · obtain ⟨cur, hc⟩ := own_in ho e.symm
    exact h.q.apart hc rfl
  · obtain ⟨cur, hc⟩ := own_in ho e.symm
    exact h.p.apart hc rfl
end
section
variable {B : Nat → Prop} {lb mq mp : Nat} {w wr : World} {S : Sto}
/-- What Release leaves. -/
def RelR (B : Nat → Prop) (lb mq mp : Nat) (S0 : Sto) (L1 L2 : List Am) (N : Nat) (v : Value) (w' : World) : Prop := ∃ (S' : Sto) (rdL : List Am), Mem B lb mq mp w' S' ∧ LI S' (L1 ++ L2) (fun _ => 0) ∧ S'.asked = S0.asked ∧ rdL.Sublist (L1 ++ L2) ∧ (∀ m ∈ L1 ++ L2, m ∈ rdL ↔ Zr S' m.ak ∧ ¬ Zr S0 m.ak) ∧ w'.ownsRow N 29 2 v rdL.length ((rdL.map (·.id)).flatMap iC)
theorem AI.nbrs {L1 L2 : List Am} {a : Am} (h : AI S (L1 ++ a :: L2)) : (∀ z, lst none (L1.map aQ) = some z → (∃ d, S.sp z = some d) ∧ z ≠ a.sp) ∧ ∀ y, nxt (L2.map aQ) none = some y → (∃ d, S.sp y = some d) ∧ y ≠ a.sp ∧ lst none (L1.map aQ) ≠ some y := by
  have hz : aqs (L1 ++ a :: L2) (0, 0) = L1.map aQ ++ aQ a :: L2.map aQ := by rw [aqs_zero, List.map_append, List.map_cons]
  have hch := h.q.chn (0, 0)
  have hnd := (h.q (0, 0)).nd (0, 0)
  rw [hz] at hch hnd
  rw [List.map_append, List.map_cons, List.nodup_append, List.nodup_cons] at hnd
  obtain ⟨_, ⟨n2, _⟩, n3⟩ := hnd
  have hin : ∀ u ∈ L1.map aQ ++ aQ a :: L2.map aQ, ∃ d, S.sp u.p = some d := fun u hu => by
    obtain ⟨_, _, _, hm⟩ := hch.mem u hu
    have hm' : spx S.sp u.p = some _ := hm
    unfold spx at hm'
    cases hs : S.sp u.p with
    | none => rw [hs] at hm'; cases hm'
    | some d => exact ⟨d, rfl⟩
  have h1 : ∀ z, lst none (L1.map aQ) = some z → ∃ u ∈ L1.map aQ, u.p = z := fun z hz => by
    have hne : L1.map aQ ≠ [] := fun c => by rw [c] at hz; cases hz
    obtain ⟨u, hu, e⟩ := lst_mem (l := L1.map aQ) (ah := none) hne
    rw [hz] at e
    exact ⟨u, hu, (Option.some.inj e).symm⟩
  refine ⟨fun z hz => ?_, fun y hy => ?_⟩
  · obtain ⟨u, hu, rfl⟩ := h1 z hz
    exact ⟨hin u (List.mem_append_left _ hu), fun e => n3 _ (List.mem_map.2 ⟨u, hu, rfl⟩) a.sp (by simp [aQ]) e⟩
  · obtain ⟨u, hu, rfl⟩ := nxt_mem hy
    refine ⟨hin u (List.mem_append_right _ (List.mem_cons_of_mem _ hu)), fun e => n2 (List.mem_map.2 ⟨u, hu, e⟩), fun e => ?_⟩
    obtain ⟨v, hv, ev⟩ := h1 _ e
    exact n3 _ (List.mem_map.2 ⟨v, hv, rfl⟩) u.p (List.mem_cons_of_mem _ (List.mem_map.2 ⟨u, hu, rfl⟩)) ev
theorem unlA_p {p : Nat} {ah be : Option Nat} (h1 : ah ≠ some p) (h2 : be ≠ some p) : (unlA S ah be).sp p = S.sp p := by
  cases ah with
  | none =>
    cases be with
    | none => rfl
    | some y => exact md_far _ _ fun e => h2 (by rw [e])
  | some x =>
    cases be with
    | none => exact md_far _ _ fun e => h1 (by rw [e])
    | some y => exact (md_far _ _ fun e => h2 (by rw [e])).trans (md_far _ _ fun e => h1 (by rw [e]))
/-- Those that are ready, in their line's order. -/
theorem sort_am {S0 : Sto} {L1 L2 : List Am} {x : Am} {rd D : List Nat} (h : RI S0 S L1 L2 x [] rd) (hp : D.Perm rd) (hs : D.Pairwise fun a b => numB S a ≤ numB S b) : ∃ rdL : List Am, rdL.map (·.ak) = D ∧ rdL.Sublist (L1 ++ L2) ∧ (∀ m ∈ L1 ++ L2, m ∈ rdL ↔ Zr S m.ak ∧ ¬ Zr S0 m.ak) ∧ D.map (idB S) = rdL.map (·.id) := by
  have hD : ∀ b ∈ D, ∃ m ∈ L1 ++ L2, m.ak = b := fun b hb => h.rm b (hp.subset hb)
  have lift : ∀ D : List Nat, (∀ b ∈ D, ∃ m ∈ L1 ++ L2, m.ak = b) → ∃ E : List Am, E.map (·.ak) = D ∧ ∀ m ∈ E, m ∈ L1 ++ L2 := fun D => by
    induction D with
    | nil => intro _; exact ⟨[], rfl, by simp⟩
    | cons b r ih =>
      intro hb
      obtain ⟨E, h1, h2⟩ := ih fun y hy => hb y (by simp [hy])
      obtain ⟨m, hm, e⟩ := hb b (by simp)
      refine ⟨m :: E, by rw [List.map_cons, h1, e], fun y hy => ?_⟩
      rcases List.mem_cons.1 hy with e' | e'
      · rw [e']; exact hm
      · exact h2 y e'
  obtain ⟨E, hE, hEL⟩ := lift D hD
  have hnum : ∀ m ∈ L1 ++ L2, numB S m.ak = m.num ∧ idB S m.ak = m.id := fun m hm => by
    obtain ⟨A, k1, k2, k3, _⟩ := h.k.ak m hm
    unfold numB idB
    rw [k1]
    exact ⟨k3, k2⟩
  have hnd : (E.map (·.ak)).Nodup := by rw [hE]; exact hp.nodup_iff.2 h.nd
  have hsrt : E.Pairwise fun a b => a.num < b.num := by
    rw [← hE, List.pairwise_map] at hs
    have h2 : E.Pairwise fun a b => a.ak ≠ b.ak := List.pairwise_map.1 hnd
    refine (hs.and h2).imp_of_mem fun {a b} ha hb hh => ?_
    have h1 := hh.1
    rw [(hnum a (hEL a ha)).1, (hnum b (hEL b hb)).1] at h1
    rcases Int.lt_or_eq_of_le h1 with c | c
    · exact c
    · exfalso
      have hpw := h.ai.num
      obtain ⟨i, hi, ei⟩ := List.getElem_of_mem (hEL a ha)
      obtain ⟨j, hj, ej⟩ := List.getElem_of_mem (hEL b hb)
      have hij : i ≠ j := fun e => by
        subst e
        exact hh.2 (by rw [← ei, ← ej])
      rcases Nat.lt_or_gt_of_ne hij with d | d
      · have := List.pairwise_iff_getElem.1 hpw i j hi hj d
        rw [ei, ej] at this; omega
      · have := List.pairwise_iff_getElem.1 hpw j i hj hi d
        rw [ei, ej] at this; omega
  refine ⟨E, hE, sorted_sub h.ai.num hsrt hEL, fun m hm => ?_, ?_⟩
  · rw [← h.rz]
    refine ⟨fun hmE => hp.subset (hE ▸ List.mem_map.2 ⟨m, hmE, rfl⟩), fun hmr => ?_⟩
    have : m.ak ∈ E.map (·.ak) := by rw [hE]; exact hp.symm.subset hmr
    obtain ⟨y, hy, ey⟩ := List.mem_map.1 this
    have := h.k.n3 y (hEL y hy) m hm ey
    rw [← this]; exact hy
  · rw [← hE, List.map_map]
    exact List.map_congr_left fun m hm => (hnum m (hEL m hm)).2
/-- Where Release's second loop stands. -/
structure Ro (B : Nat → Prop) (lb mq mp : Nat) (w : World) (N : Nat) (S : Sto) (D : List Nat) (rv : Value) (t : Nat) (ov : Value) (wr : World) : Prop where
  m : Mem B lb mq mp wr S
  r : wr.ownsRow N 86 1 rv D.length (D.map PN)
  o : wr.ownsRow N 29 2 ov t (((D.take t).map (idB S)).flatMap iC)
  u : Upd B N w wr
theorem out_round {N t g n c : Nat} {D : List Nat} {ov : Value} (h : Ro B lb mq mp w N S D (.slice (some ⟨g, 0, none⟩) n c) t ov wr) (hD : ∀ b ∈ D, ∃ A, S.ak b = some A) (ht : t < D.length) (hl : D.length ≤ 1099511627776) (hN : N ≤ wr.heap.size) :
    ∃ b i1 i2 Z a3 c3 y, wr.cell? ⟨g, t, none⟩ = some (PN b) ∧ wr.cell? ⟨b, 0, none⟩ = some (.int .i64 i1) ∧ wr.cell? ⟨b, 1, none⟩ = some (.int .i64 i2) ∧ wr.alloc (.cells #[.int .i64 i1, .int .i64 i2] 29) = Z ∧ (Builtin.append_ #[39, 39] 39 #[ov, .slice (some ⟨wr.heap.size, 0, none⟩) 1 1]).run Try.prog Z = .ok (.slice a3 (t + 1) c3) y ∧ Ro B lb mq mp w N S D (.slice (some ⟨g, 0, none⟩) n c) (t + 1) (.slice a3 (t + 1) c3) y ∧ wr.heap.size ≤ y.heap.size := by
  obtain ⟨b, hb⟩ : ∃ b, D[t] = b := ⟨_, rfl⟩
  obtain ⟨A, hA⟩ := hD b (by rw [← hb]; exact List.getElem_mem ht)
  have hcell : wr.cell? ⟨g, t, none⟩ = some (PN b) := by
    have h2 := h.r.cells (g := g) rfl t (PN b) (by rw [List.getElem?_map, List.getElem?_eq_getElem ht, hb]; rfl)
    rwa [add_at, Nat.zero_add] at h2
  have hid : idB S b = A.id := by unfold idB; rw [hA]
  have bZ : Below wr.heap.size wr (wr.alloc (.cells #[.int .i64 A.id.1, .int .i64 A.id.2] 29)) := below_box _
  have ho := own_below h.o bZ
  obtain ⟨v3, y, hr, h5, h6⟩ := append_is 39 ho (sees_oneI wr A.id) (by simp; omega) (by simp; omega)
  have h5' : y.ownsRow N 29 2 v3 (t + 1) (((D.take (t + 1)).map (idB S)).flatMap iC) := by
    have e : (D.take (t + 1)).map (idB S) = (D.take t).map (idB S) ++ [A.id] := by
      rw [List.take_succ_eq_append_getElem ht, List.map_append, hb]
      show _ ++ [idB S b] = _
      rw [hid]
    rw [e]; exact h5
  obtain ⟨a3, c3, rfl⟩ := own_shape h5'
  refine ⟨b, A.id.1, A.id.2, _, a3, c3, y, hcell, h.m.rd_ak hA 0, h.m.rd_ak hA 1, rfl, hr, ⟨(h.m.below bZ).gr' ho h6, ?_, h5', ?_⟩, Nat.le_trans bZ.size h6.size⟩
  · refine own_keep (own_below h.r bZ) fun j hj => h6.block j ?_ fun e' => ?_
    · obtain ⟨cur, hc⟩ := own_in (own_below h.r bZ) hj
      exact lt_of hc
    · obtain ⟨cur, hc⟩ := own_in (own_below h.r bZ) hj
      obtain ⟨cur', hc'⟩ := own_in ho e'.symm
      exact ne_ty hc' hc (by decide) rfl
  · refine (h.u.trans ((Upd.of bZ).less hN)).trans ⟨h6.os, h6.tape, h6.output, h6.size, fun k hk hs => h6.block k (by simp; omega) fun e' => ?_⟩
    have := (ho.lt k e'.symm).1
    omega
end
end Go.Proofs.Yteenbebpdibbcaa
