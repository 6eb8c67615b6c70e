/- Askers, pure: how many locks they lack, and who is ready by what is given. -/
import Derived.Test.YteenbebpdibbcaaP0
namespace Go.Proofs.Yteenbebpdibbcaa
open Go.RowKit
set_option maxRecDepth 100000

structure Am where
  sp : Nat
  ak : Nat
  id : Ky
  num : Int
  cl : List (Nat × Lk)
def hdS (S : Sto) (p : Nat) : Bool := match S.cs p with
  | some c => c.hd
  | none => false
def cnt (S : Sto) (cl : List (Nat × Lk)) : Nat := (cl.filter fun c => !hdS S c.1).length
theorem nodup_inj {α β : Type} {f : α → β} : ∀ {L : List α}, (L.map f).Nodup → ∀ {a b : α}, a ∈ L → b ∈ L → f a = f b → a = b
  | [], _, _, _, ha, _, _ => by simp at ha
  | x :: r, hn, a, b, ha, hb, e => by
    rw [List.map_cons, List.nodup_cons] at hn
    rcases List.mem_cons.1 ha with ea | ha
    · rcases List.mem_cons.1 hb with eb | hb
      · rw [ea, eb]
      · exact absurd (List.mem_map.2 ⟨b, hb, by rw [← e, ea]⟩) hn.1
    · rcases List.mem_cons.1 hb with eb | hb
      · exact absurd (List.mem_map.2 ⟨a, ha, by rw [e, eb]⟩) hn.1
      · exact nodup_inj hn.2 ha hb e
theorem cnt_same {S S' : Sto} {cl : List (Nat × Lk)} (h : ∀ c ∈ cl, hdS S' c.1 = hdS S c.1) : cnt S' cl = cnt S cl := by
  unfold cnt
  rw [List.filter_congr fun c hc => by rw [h c hc]]
theorem cnt_cons (S : Sto) (x : Nat × Lk) (r : List (Nat × Lk)) : cnt S (x :: r) = (if hdS S x.1 then 0 else 1) + cnt S r := by
  unfold cnt
  rw [List.filter_cons]
  cases hdS S x.1
  · simp; omega
  · simp
theorem cnt_append (S : Sto) (l m : List (Nat × Lk)) : cnt S (l ++ m) = cnt S l + cnt S m := by
  unfold cnt
  rw [List.filter_append, List.length_append]
theorem cnt_turn {S S' : Sto} {p : Nat} (h1 : hdS S p = false) (h2 : hdS S' p = true) (h3 : ∀ x, x ≠ p → hdS S' x = hdS S x) : ∀ {cl : List (Nat × Lk)}, (cl.map (·.1)).Nodup → p ∈ cl.map (·.1) → cnt S' cl + 1 = cnt S cl
  | [], _, h => by simp at h
  | x :: r, hn, h => by
    rw [List.map_cons, List.nodup_cons] at hn
    rw [cnt_cons, cnt_cons]
    by_cases e : x.1 = p
    · rw [e] at hn ⊢
      rw [h1, h2, cnt_same (S := S) (S' := S') fun c hc => h3 _ fun e' => hn.1 (List.mem_map.2 ⟨c, hc, e'⟩)]
      simp; omega
    · have hr : p ∈ r.map (·.1) := by
        rw [List.map_cons, List.mem_cons] at h
        exact h.resolve_left fun c => e c.symm
      have := cnt_turn h1 h2 h3 hn.2 hr
      rw [h3 _ e]
      omega
structure Lki (S : Sto) (L : List Am) (pend : Nat → Nat) : Prop where
  ak : ∀ a ∈ L, ∃ A, S.ak a.ak = some A ∧ A.id = a.id ∧ A.num = a.num ∧ A.cl = a.cl.map (·.1) ∧ A.lacks = ((cnt S a.cl + pend a.ak : Nat) : Int)
  n1 : ∀ a ∈ L, (a.cl.map (·.1)).Nodup
  n2 : ∀ a ∈ L, ∀ a' ∈ L, ∀ p, p ∈ a.cl.map (·.1) → p ∈ a'.cl.map (·.1) → a = a'
  n3 : ∀ a ∈ L, ∀ a' ∈ L, a.ak = a'.ak → a = a'
  rg : ∀ b A, S.ak b = some A → 0 ≤ A.lacks ∧ A.lacks ≤ 2199023255552
/-- Who lacks no lock. -/
def Zr (S : Sto) (b : Nat) : Prop := ∃ A, S.ak b = some A ∧ A.lacks = 0
theorem giv1_hd (S : Sto) {p : Nat} (c : Cl) : hdS (giv1 S p c) p = true ∧ ∀ x, x ≠ p → hdS (giv1 S p c) x = hdS S x := by
  refine ⟨?_, fun x hx => ?_⟩
  · unfold hdS giv1
    simp only [up_same]
  · unfold hdS giv1
    simp only [up_other _ _ hx]
theorem giv1_lk {S : Sto} {L : List Am} {pend : Nat → Nat} (h : Lki S L pend) {p : Nat} {c : Cl} (hp : S.cs p = some c) (hh : c.hd = false) {a0 : Am} (ha : a0 ∈ L) (hak : a0.ak = c.by') (hin : p ∈ a0.cl.map (·.1)) :
    Lki (giv1 S p c) L pend ∧ (∀ b, b ∈ gotS S c.by' ↔ Zr (giv1 S p c) b ∧ ¬ Zr S b) ∧ (∀ b, Zr S b → Zr (giv1 S p c) b) ∧ (gotS S c.by').Nodup := by
  obtain ⟨A0, h0, hid, hnum, hcl, hlk⟩ := h.ak a0 ha
  obtain ⟨q1, q2⟩ := giv1_hd S (p := p) c
  have hf : hdS S p = false := by unfold hdS; rw [hp]; exact hh
  have hcnt := cnt_turn hf q1 q2 (h.n1 a0 ha) hin
  rw [hak] at h0 hlk
  have hself : (giv1 S p c).ak c.by' = some { A0 with lacks := A0.lacks - 1 } := by show md S.ak _ _ _ = _; unfold md; rw [if_pos rfl, h0]; rfl
  have hoth : ∀ b, b ≠ c.by' → (giv1 S p c).ak b = S.ak b := fun b hb => by show md S.ak _ _ _ = _; unfold md; rw [if_neg hb]
  have hpos : 1 ≤ A0.lacks := by rw [hlk]; omega
  refine ⟨⟨fun a haL => ?_, h.n1, h.n2, h.n3, fun b A hA => ?_⟩, fun b => ?_, fun b hb => ?_, ?_⟩
  · by_cases e : a.ak = c.by'
    · obtain rfl : a = a0 := h.n3 a haL a0 ha (e.trans hak.symm)
      refine ⟨{ A0 with lacks := A0.lacks - 1 }, by rw [e]; exact hself, hid, hnum, hcl, ?_⟩
      show A0.lacks - 1 = _
      rw [hlk, e]; omega
    · obtain ⟨A, k1, k2, k3, k4, k5⟩ := h.ak a haL
      refine ⟨A, (hoth _ e).trans k1, k2, k3, k4, ?_⟩
      rw [k5, cnt_same (S := S) (S' := giv1 S p c) fun x hx => q2 _ fun e' => ?_]
      exact e (by rw [h.n2 a haL a0 ha p (e' ▸ List.mem_map.2 ⟨x, hx, rfl⟩) hin, hak])
  · by_cases e : b = c.by'
    · subst e
      rw [hself] at hA
      injection hA with hA
      subst hA
      have := h.rg _ _ h0
      show 0 ≤ A0.lacks - 1 ∧ A0.lacks - 1 ≤ _
      omega
    · rw [hoth b e] at hA
      exact h.rg b A hA
  · unfold gotS
    rw [h0]
    show b ∈ (if A0.lacks - 1 = 0 then [c.by'] else []) ↔ _
    by_cases hz : A0.lacks - 1 = 0
    · rw [if_pos hz, List.mem_singleton]
      refine ⟨fun e => ?_, fun ⟨z1, z2⟩ => ?_⟩
      · subst e
        refine ⟨⟨_, hself, hz⟩, fun ⟨A, hA, hA0⟩ => ?_⟩
        rw [h0] at hA
        injection hA with hA
        subst hA
        omega
      · by_cases e : b = c.by'
        · exact e
        · obtain ⟨A, hA, hA0⟩ := z1
          rw [hoth b e] at hA
          exact absurd ⟨A, hA, hA0⟩ z2
    · rw [if_neg hz]
      refine ⟨fun e => by simp at e, fun ⟨⟨A, hA, hA0⟩, z2⟩ => ?_⟩
      by_cases e : b = c.by'
      · subst e
        rw [hself] at hA
        injection hA with hA
        subst hA
        exact absurd hA0 hz
      · rw [hoth b e] at hA
        exact absurd ⟨A, hA, hA0⟩ z2
  · obtain ⟨A, hA, hA0⟩ := hb
    by_cases e : b = c.by'
    · subst e
      rw [h0] at hA
      injection hA with hA
      subst hA
      omega
    · exact ⟨A, (hoth b e).trans hA, hA0⟩
  · unfold gotS
    rw [h0]
    show (if A0.lacks - 1 = 0 then [c.by'] else []).Nodup
    split <;> simp
theorem giv_lk {L : List Am} {pend : Nat → Nat} : ∀ (ps : List Nat) (S : Sto), Lki S L pend → (∀ p ∈ ps, ∃ c, S.cs p = some c ∧ ∃ a ∈ L, a.ak = c.by' ∧ p ∈ a.cl.map (·.1)) → ps.Nodup →
    Lki (giv S ps).1 L pend ∧ (∀ b, b ∈ (giv S ps).2 ↔ Zr (giv S ps).1 b ∧ ¬ Zr S b) ∧ (∀ b, Zr S b → Zr (giv S ps).1 b) ∧ (giv S ps).2.Nodup
  | [], S, h, _, _ => ⟨h, fun b => ⟨fun c => by simp [giv] at c, fun ⟨c, d⟩ => absurd c d⟩, fun _ z => z, by simp [giv]⟩
  | p :: r, S, h, hp, hn => by
    obtain ⟨c, hc, a, ha, hak, hin⟩ := hp p (by simp)
    have hn' := List.nodup_cons.1 hn
    cases hy : c.hd || !mayS S c with
    | true =>
      rw [giv_stop r hc hy]
      exact ⟨h, fun b => ⟨fun c => by simp at c, fun ⟨c, d⟩ => absurd c d⟩, fun _ z => z, by simp⟩
    | false =>
      rw [giv_go r hc hy]
      obtain ⟨g1, g2, g3, g4⟩ := giv1_lk h hc (by revert hy; cases c.hd <;> simp) ha hak hin
      obtain ⟨i1, i2, i3, i4⟩ := giv_lk r (giv1 S p c) g1 (fun x hx => by
        obtain ⟨c', h1, h2⟩ := hp x (by simp [hx])
        exact ⟨c', (up_other S.cs _ (fun e : x = p => hn'.1 (by rw [← e]; exact hx))).trans h1, h2⟩) hn'.2
      refine ⟨i1, fun b => ?_, fun b z => i3 b (g3 b z), ?_⟩
      · rw [List.mem_append, g2, i2]
        refine ⟨fun o => ?_, fun ⟨z1, z2⟩ => ?_⟩
        · rcases o with ⟨z1, z2⟩ | ⟨z1, z2⟩
          · exact ⟨i3 b z1, z2⟩
          · exact ⟨z1, fun z => z2 (g3 b z)⟩
        · by_cases z : Zr (giv1 S p c) b
          · exact .inl ⟨z, z2⟩
          · exact .inr ⟨z1, z⟩
      · refine List.nodup_append.2 ⟨g4, i4, fun x hx y hy e => ?_⟩
        subst e
        exact ((i2 x).1 hy).2 ((g2 x).1 hx).1
/-- Places and askers stay, but for who has the lock and what is lacked. -/
theorem giv_dom : ∀ (ps : List Nat) (S : Sto), (∀ b A, S.ak b = some A → ∃ A', (giv S ps).1.ak b = some A' ∧ A'.id = A.id ∧ A'.num = A.num ∧ A'.v = A.v ∧ A'.cl = A.cl) ∧ (∀ p c, S.cs p = some c → ∃ h, (giv S ps).1.cs p = some { c with hd := h }) ∧ ∀ p c', (giv S ps).1.cs p = some c' → ∃ c, S.cs p = some c ∧ c'.by' = c.by' ∧ c'.ah = c.ah
  | [], S => ⟨fun b A h => ⟨A, h, rfl, rfl, rfl, rfl⟩, fun p c h => ⟨c.hd, h⟩, fun p c h => ⟨c, h, rfl, rfl⟩⟩
  | p :: r, S => by
    cases hp : S.cs p with
    | none =>
      have : giv S (p :: r) = (S, []) := by rw [giv, hp]
      rw [this]
      exact ⟨fun b A h => ⟨A, h, rfl, rfl, rfl, rfl⟩, fun p c h => ⟨c.hd, h⟩, fun p c h => ⟨c, h, rfl, rfl⟩⟩
    | some c =>
      cases hc : c.hd || !mayS S c with
      | true =>
        rw [giv_stop r hp hc]
        exact ⟨fun b A h => ⟨A, h, rfl, rfl, rfl, rfl⟩, fun p c h => ⟨c.hd, h⟩, fun p c h => ⟨c, h, rfl, rfl⟩⟩
      | false =>
        rw [giv_go r hp hc]
        obtain ⟨i1, i2, i3⟩ := giv_dom r (giv1 S p c)
        refine ⟨fun b A hA => ?_, fun x d hd => ?_, fun x d' hd' => ?_⟩
        · by_cases e : b = c.by'
          · subst e
            obtain ⟨A', k1, k2, k3, k4, k5⟩ := i1 c.by' { A with lacks := A.lacks - 1 } (by show md S.ak _ _ _ = _; unfold md; rw [if_pos rfl, hA]; rfl)
            exact ⟨A', k1, k2, k3, k4, k5⟩
          · exact i1 b A (by show md S.ak _ _ _ = _; unfold md; rw [if_neg e, hA])
        · by_cases e : x = p
          · subst e
            rw [hp] at hd
            injection hd with hd
            subst hd
            obtain ⟨h, k⟩ := i2 x { c with hd := true } (up_same _ _ _)
            exact ⟨h, k⟩
          · exact i2 x d ((up_other _ _ e).trans hd)
        · obtain ⟨d, k1, k2, k3⟩ := i3 x d' hd'
          by_cases e : x = p
          · subst e
            rw [show (giv1 S x c).cs x = some { c with hd := true } from up_same _ _ _] at k1
            injection k1 with k1
            subst k1
            exact ⟨c, hp, k2, k3⟩
          · exact ⟨d, (up_other _ _ e).symm.trans k1, k2, k3⟩
end Go.Proofs.Yteenbebpdibbcaa
