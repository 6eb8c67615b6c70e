/- Release: its rounds. -/
import Derived.Test.YteenbebpdibbcaaP7
namespace Go.Proofs.Yteenbebpdibbcaa
open Go.RowKit
set_option maxRecDepth 100000

theorem nodup_len : ∀ {l m : List Nat}, l.Nodup → (∀ x ∈ l, x ∈ m) → l.length ≤ m.length
  | [], _, _, _ => Nat.zero_le _
  | x :: r, m, hn, hs => by
    rw [List.nodup_cons] at hn
    obtain ⟨m1, m2, rfl⟩ := List.append_of_mem (hs x (by simp))
    have := nodup_len (l := r) (m := m1 ++ m2) hn.2 fun y hy => by
      have h1 := hs y (by simp [hy])
      rw [List.mem_append, List.mem_cons] at h1
      rw [List.mem_append]
      rcases h1 with h1 | h1 | h1
      · exact .inl h1
      · exact absurd (h1 ▸ hy) hn.1
      · exact .inr h1
    simp only [List.length_append, List.length_cons] at this ⊢
    omega
section
variable {B : Nat → Prop} {lb mq mp : Nat} {w wr : World} {S : Sto}
theorem Mem.except (h : Mem B lb mq mp w S) {g : Nat} {cur : Array Value} {T : TypeId} (hT : T ≠ 74 ∧ T ≠ 109 ∧ T ≠ 101 ∧ T ≠ 89 ∧ T ≠ 130 ∧ T ≠ 91) (hg : w.heap[g]? = some (.cells cur T)) : Mem (fun j => B j ∧ j ≠ g) lb mq mp w S :=
  ⟨h.top, fun b c e => ⟨(h.cs b c e).1, (h.cs b c e).2, ne_ty hg (h.cs b c e).1 (Ne.symm hT.2.1)⟩, fun b c e => ⟨(h.sp b c e).1, (h.sp b c e).2, ne_ty hg (h.sp b c e).1 (Ne.symm hT.2.2.1)⟩, fun b c e => ⟨(h.ak b c e).1, (h.ak b c e).2, ne_ty hg (h.ak b c e).1 (Ne.symm hT.2.2.2.1)⟩, fun b c e => ⟨(h.ln b c e).1, (h.ln b c e).2, ne_ty hg (h.ln b c e).1 (Ne.symm hT.2.2.2.2.1)⟩, fun b c e => ⟨(h.row b c e).1, fun x hx => ⟨(h.row b c e).2 x hx, by obtain ⟨cur', hc⟩ := own_in (h.row b c e).1 hx; exact ne_ty hg hc (Ne.symm hT.2.2.2.2.2)⟩⟩, h.ap, h.q, h.p, ⟨h.bt.1, ne_ty hg h.top (Ne.symm hT.1)⟩, ⟨h.bt.2.1, (h.q.apart hg).symm⟩, ⟨h.bt.2.2.1, (h.p.apart hg).symm⟩, h.bt.2.2.2⟩
/-- .. of a row, which may be none. -/
theorem Mem.exrow (h : Mem B lb mq mp w S) {base n : Nat} {v : Value} {xs : List Value} (ho : w.ownsRow base 86 1 v n xs) : Mem (fun j => B j ∧ v.ownBlock ≠ some j) lb mq mp w S := by
  cases hv : v.ownBlock with
  | none => exact h.mono fun j _ hj => ⟨hj, by simp⟩
  | some g =>
    obtain ⟨cur, hc⟩ := own_in ho hv
    exact (h.except (by decide) hc).mono fun j _ hj => ⟨hj.1, fun e => hj.2 (Option.some.inj e).symm⟩
/-- Where Release's first loop stands. -/
structure Rl (B : Nat → Prop) (lb mq mp : Nat) (w : World) (N : Nat) (S0 : Sto) (L1 L2 : List Am) (x : Am) (v0 : Value) (t : Nat) (rv : Value) (rn : Nat) (wr : World) : Prop where
  ex : ∃ S rd, Mem B lb mq mp wr S ∧ RI S0 S L1 L2 x (x.cl.drop t) rd ∧ wr.ownsRow N 86 1 rv rn (rd.map PN) ∧ rd.length = rn ∧ (∃ A, S.ak x.ak = some A ∧ A.v = v0 ∧ A.cl = x.cl.map (·.1)) ∧ S.asked = S0.asked
  u : Upd B N w wr
theorem Rl.len {N : Nat} {S0 : Sto} {L1 L2 : List Am} {x : Am} {v0 rv : Value} {t rn : Nat} (h : Rl B lb mq mp w N S0 L1 L2 x v0 t rv rn wr) (hask : S0.asked ≤ 1099511627776) : rn ≤ 1099511627776 := by
  obtain ⟨⟨S, rd, _, hR, _, hrn, _, ha⟩, _⟩ := h
  have h1 : rd.length ≤ ((L1 ++ L2).map (·.ak)).length := by
    refine nodup_len hR.nd fun b hb => ?_
    obtain ⟨m, hm, e⟩ := hR.rm b hb
    exact List.mem_map.2 ⟨m, hm, e⟩
  have h2 := num_len (lo := 0) (hi := S.asked) hR.ai.num hR.ai.nb hR.ai.na
  rw [List.length_map] at h1
  omega
theorem rel_round {N t : Nat} {S0 : Sto} {L1 L2 : List Am} {x : Am} {rv : Value} {rn g n0 c0 : Nat} (h : Rl B lb mq mp w N S0 L1 L2 x (.slice (some ⟨g, 0, none⟩) n0 c0) t rv rn wr) (hL : LI S0 (L1 ++ x :: L2) fun _ => 0) (hB : ∀ j, wr.heap.size ≤ j → B j) (hN : N ≤ wr.heap.size) (ht : t < x.cl.length) (hask : S0.asked ≤ 1099511627776) :
    ∃ p, wr.cell? ⟨g, t, none⟩ = some (PN p) ∧ Calls Try.prog 48 #[PN lb, PN p] wr fun e w2 => ∃ a2 n2 c2, e = .returned (.slice a2 n2 c2) ∧ ∃ a3 n3 c3 y, (Builtin.append_ #[97, 97] 97 #[rv, .slice a2 n2 c2]).run Try.prog w2 = .ok (.slice a3 n3 c3) y ∧ Rl B lb mq mp w N S0 L1 L2 x (.slice (some ⟨g, 0, none⟩) n0 c0) (t + 1) (.slice a3 n3 c3) n3 y ∧ wr.heap.size ≤ y.heap.size := by
  have hrn := h.len hask
  obtain ⟨⟨S, rd, hM, hR, hO, hrd, ⟨A, hA, hAv, hAc⟩, hsa⟩, hU⟩ := h
  obtain ⟨⟨p, k0, e⟩, hc⟩ : ∃ c, x.cl[t] = c := ⟨_, rfl⟩
  have hdrop : x.cl.drop t = (p, (k0, e)) :: x.cl.drop (t + 1) := by rw [List.drop_eq_getElem_cons ht, hc]
  have hxL : x ∈ L1 ++ x :: L2 := List.mem_append_right _ (by simp)
  have hkd := hL.kd x hxL
  have hcell : wr.cell? ⟨g, t, none⟩ = some (PN p) := by
    have h1 := (hM.row _ A hA).1
    rw [hAv] at h1
    have h2 := h1.cells (g := g) rfl t (PN p) (by
      rw [hAc, List.map_map, List.getElem?_map, List.getElem?_eq_getElem ht, hc]; rfl)
    rwa [add_at, Nat.zero_add] at h2
  refine ⟨p, hcell, ?_⟩
  rw [hdrop] at hR
  have hkd' : k0 ∉ (x.cl.drop (t + 1)).map (·.2.1) := by
    have h1 : ((x.cl.drop t).map (·.2.1)).Nodup := hkd.sublist ((List.drop_sublist t x.cl).map _)
    rw [hdrop, List.map_cons, List.nodup_cons] at h1
    exact h1.1
  obtain ⟨q, n, c, qs, s1, s2, s3, s4, s5, s6, s7, s8, s9, s10, s11, s12, s13⟩ := hR.step hkd' (fun b hb => hL.kd b (by
    rcases List.mem_append.1 hb with c | c
    · exact List.mem_append_left _ c
    · exact List.mem_append_right _ (List.mem_cons_of_mem _ c))) (by rw [hsa]; exact hask)
  have hok : OkK c.k := by
    rw [s2]
    exact (hL.ok x hxL).2 (p, (k0, e)) (by rw [← hc]; exact List.getElem_mem ht)
  have hM3 := hM.exrow hO
  have hlv := lleave_any hM3 (fun j hj => ⟨hB j hj, fun e' => by have := (hO.lt j e').2; omega⟩) s1 hok (by rw [s2]; exact s3) s4 s5 s6 s7 s8 s9 s10 s11
  obtain ⟨S', hS'⟩ : ∃ z, giv (lvS S q c) qs = z := ⟨_, rfl⟩
  rw [hS'] at hlv s12 s13
  refine hlv.mono fun ex w2 ⟨v2, e1, hM4, hO4, hU4⟩ => ?_
  have hz := hU4.size
  obtain ⟨a2, c2, rfl⟩ := own_shape hO4
  have hO2 : w2.ownsRow N 86 1 rv rn (rd.map PN) := own_keep hO fun j hj => hU4.block j (hO.lt j hj).2 fun c => c.2 hj
  have hO4' := hO4
  rw [← flat_aC] at hO4'
  obtain ⟨_, hSees⟩ := own_sees aC_len (by decide) hO4'
  have hO2' := hO2
  rw [← flat_aC] at hO2'
  have hn2 : S'.2.length ≤ 1099511627776 := by
    have h1 : S'.2.length ≤ ((L1 ++ L2).map (·.ak)).length := by
      refine nodup_len (List.nodup_append.1 s12.nd).2.1 fun b hb => ?_
      obtain ⟨m, hm, e⟩ := s12.rm b (List.mem_append_right _ hb)
      exact List.mem_map.2 ⟨m, hm, e⟩
    have h2 := num_len (lo := 0) (hi := S'.1.asked) s12.ai.num s12.ai.nb s12.ai.na
    rw [List.length_map] at h1
    omega
  obtain ⟨v3, y, hr, h5, h6⟩ := append_as 97 hO2' hSees (by omega) (by omega)
  rw [flat_aC] at h5
  obtain ⟨a3, c3, rfl⟩ := own_shape h5
  refine ⟨a2, _, c2, e1, a3, _, c3, y, hr, ⟨⟨S'.1, rd ++ S'.2, (hM4.mono fun j _ hj => hj.1).gr (by decide) hO2 h6, s12, h5, by rw [List.length_append, hrd], ?_, s13.trans hsa⟩, ?_⟩, Nat.le_trans hz h6.size⟩
  · obtain ⟨A', k1, _, _, k4, k5⟩ := (giv_dom qs (lvS S q c)).1 x.ak A (by rw [(lvS_rest S q c).2.1]; exact hA)
    rw [hS'] at k1
    exact ⟨A', k1, k4.trans hAv, k5.trans hAc⟩
  · refine (hU.trans ((hU4.less hN).mono (Nat.le_refl _) fun k _ hk => hk.1)).trans ⟨h6.os, h6.tape, h6.output, h6.size, fun k hk hs => h6.block k (by omega) fun e' => ?_⟩
    have := (hO2.lt k e'.symm).1
    omega
end
end Go.Proofs.Yteenbebpdibbcaa
