/- Pairs as a map, in pure terms. -/
import Derived.Test.YtbajggmpklajnabP0
namespace Go.Proofs.Ytbajggmpklajnab
set_option maxRecDepth 100000

/-- Two rising lists of the same pairs are one. -/
theorem risesP_ext : ∀ {a b : List Pr}, RisesP a → RisesP b → (∀ k, k ∈ a ↔ k ∈ b) → a = b
  | [], [], _, _, _ => rfl
  | [], y :: s, _, _, h => by have := (h y).2 (List.mem_cons_self ..); cases this
  | x :: r, [], _, _, h => by have := (h x).1 (List.mem_cons_self ..); cases this
  | x :: r, y :: s, ha, hb, h => by
    have ha' := List.pairwise_cons.1 ha
    have hb' := List.pairwise_cons.1 hb
    have exy : x = y := by
      rcases List.mem_cons.1 ((h x).1 (List.mem_cons_self ..)) with e | e
      · exact e
      · rcases List.mem_cons.1 ((h y).2 (List.mem_cons_self ..)) with e' | e'
        · exact e'.symm
        · exact absurd (ltK_trans (ha'.1 y e') (hb'.1 x e)) (ltK_irrefl _)
    subst exy
    congr 1
    refine risesP_ext ha'.2 hb'.2 fun k => ?_
    constructor
    · intro hk
      rcases List.mem_cons.1 ((h k).1 (List.mem_cons_of_mem _ hk)) with e | e
      · subst e; exact absurd (ha'.1 k hk) (ltK_irrefl _)
      · exact e
    · intro hk
      rcases List.mem_cons.1 ((h k).2 (List.mem_cons_of_mem _ hk)) with e | e
      · subst e; exact absurd (hb'.1 k hk) (ltK_irrefl _)
      · exact e
theorem snocInd {α : Type} {P : List α → Prop} (h0 : P []) (h1 : ∀ l x, P l → P (l ++ [x])) (l : List α) : P l := by
  rw [← List.reverse_reverse l]
  induction l.reverse with
  | nil => exact h0
  | cons x r ih => rw [List.reverse_cons]; exact h1 _ _ ih
/-- What a key has last. -/
def stp (k : Ky) (o : Option Int) (p : Pr) : Option Int := if p.1 = k then some p.2 else o
def valOf (l : List Pr) (k : Ky) : Option Int := l.foldl (stp k) none
theorem valOf_snoc (l : List Pr) (p : Pr) (k : Ky) : valOf (l ++ [p]) k = if p.1 = k then some p.2 else valOf l k := by
  unfold valOf
  rw [List.foldl_append]
  rfl
/-- A pair in a rising list: below, its own place, above. -/
def insQ (p : Pr) : List Pr → List Pr
  | [] => [p]
  | a :: r => if ltK a.1 p.1 then a :: insQ p r else if a.1 = p.1 then p :: r else p :: a :: r
theorem insQ_mem (p x : Pr) : ∀ l, RisesP l → (x ∈ insQ p l ↔ x = p ∨ (x ∈ l ∧ x.1 ≠ p.1))
  | [], _ => by simp [insQ]
  | a :: r, h => by
    have h' := List.pairwise_cons.1 h
    unfold insQ
    split
    · rename_i hl
      rw [List.mem_cons, insQ_mem p x r h'.2, List.mem_cons]
      have hna : a.1 ≠ p.1 := fun e => by rw [e] at hl; exact ltK_irrefl _ hl
      constructor
      · rintro (c | c | c)
        · exact .inr ⟨.inl c, by rw [c]; exact hna⟩
        · exact .inl c
        · exact .inr ⟨.inr c.1, c.2⟩
      · rintro (c | ⟨c | c, d⟩)
        · exact .inr (.inl c)
        · exact .inl c
        · exact .inr (.inr ⟨c, d⟩)
    · rename_i hl
      split
      · rename_i he
        rw [List.mem_cons, List.mem_cons]
        constructor
        · rintro (c | c)
          · exact .inl c
          · exact .inr ⟨.inr c, fun e => by have := h'.1 x c; rw [e, he] at this; exact ltK_irrefl _ this⟩
        · rintro (c | ⟨c | c, d⟩)
          · exact .inl c
          · rw [c] at d; exact absurd he d
          · exact .inr c
      · rename_i he
        have hpa : ltK p.1 a.1 := Decidable.byContradiction fun c => he (ltK_total hl c)
        rw [List.mem_cons, List.mem_cons]
        constructor
        · rintro (c | c | c)
          · exact .inl c
          · exact .inr ⟨.inl c, by rw [c]; exact he⟩
          · exact .inr ⟨.inr c, fun e => by have := ltK_trans hpa (h'.1 x c); rw [e] at this; exact ltK_irrefl _ this⟩
        · rintro (c | ⟨c | c, _⟩)
          · exact .inl c
          · exact .inr (.inl c)
          · exact .inr (.inr c)
theorem insQ_rises (p : Pr) : ∀ l, RisesP l → RisesP (insQ p l)
  | [], _ => List.pairwise_singleton _ _
  | a :: r, h => by
    have h' := List.pairwise_cons.1 h
    unfold insQ
    split
    · rename_i hl
      refine List.pairwise_cons.2 ⟨fun x hx => ?_, insQ_rises p r h'.2⟩
      rcases (insQ_mem p x r h'.2).1 hx with c | c
      · rw [c]; exact hl
      · exact h'.1 x c.1
    · rename_i hl
      split
      · rename_i he
        exact List.pairwise_cons.2 ⟨fun x hx => by rw [← he]; exact h'.1 x hx, h'.2⟩
      · rename_i he
        have hpa : ltK p.1 a.1 := Decidable.byContradiction fun c => he (ltK_total hl c)
        refine List.pairwise_cons.2 ⟨fun x hx => ?_, h⟩
        rcases List.mem_cons.1 hx with c | c
        · rw [c]; exact hpa
        · exact ltK_trans hpa (h'.1 x c)
theorem insQ_len (p : Pr) : ∀ l, (insQ p l).length ≤ l.length + 1
  | [] => by simp [insQ]
  | a :: r => by
    unfold insQ
    have := insQ_len p r
    (repeat' split) <;> simp only [List.length_cons] <;> omega
/-- By the place of the key. -/
def keysOf (l : List Pr) : List Ky := l.map (·.1)
theorem insQ_plc (p : Pr) : ∀ l : List Pr, insQ p l = l.take (plc p.1 (keysOf l)) ++ p :: l.drop (if (keysOf l)[plc p.1 (keysOf l)]? = some p.1 then plc p.1 (keysOf l) + 1 else plc p.1 (keysOf l))
  | [] => by simp [insQ, keysOf, plc]
  | a :: r => by
    unfold insQ
    by_cases hl : ltK a.1 p.1
    · have e : plc p.1 (keysOf (a :: r)) = plc p.1 (keysOf r) + 1 := by simp [keysOf, plc, hl]
      rw [if_pos hl, e, insQ_plc p r]
      have e2 : (keysOf (a :: r))[plc p.1 (keysOf r) + 1]? = (keysOf r)[plc p.1 (keysOf r)]? := by simp [keysOf]
      rw [e2]
      split <;> simp
    · have e : plc p.1 (keysOf (a :: r)) = 0 := by simp [keysOf, plc, hl]
      rw [if_neg hl, e]
      by_cases he : a.1 = p.1
      · simp [keysOf, he]
      · simp [keysOf, he]
/-- Pairs as a map, rising. -/
def srtP (l : List Pr) : List Pr := l.foldl (fun o p => insQ p o) []
theorem srtP_snoc (l : List Pr) (p : Pr) : srtP (l ++ [p]) = insQ p (srtP l) := by simp [srtP]
theorem srtP_spec (l : List Pr) : RisesP (srtP l) ∧ (∀ k u, (k, u) ∈ srtP l ↔ valOf l k = some u) ∧ (srtP l).length ≤ l.length := by
  refine snocInd (P := fun l => RisesP (srtP l) ∧ (∀ k u, (k, u) ∈ srtP l ↔ valOf l k = some u) ∧ (srtP l).length ≤ l.length) ?_ ?_ l
  · exact ⟨List.Pairwise.nil, fun k u => by simp [srtP, valOf], by simp [srtP]⟩
  · intro l p ih
    obtain ⟨h1, h2, h3⟩ := ih
    rw [srtP_snoc]
    refine ⟨insQ_rises p _ h1, fun k u => ?_, ?_⟩
    · rw [insQ_mem p (k, u) _ h1, valOf_snoc, h2]
      by_cases e : p.1 = k
      · rw [if_pos e]
        constructor
        · rintro (c | c)
          · rw [← c]
          · exact absurd e.symm c.2
        · intro c
          left
          obtain ⟨a, b⟩ := p
          simp only [Option.some.injEq] at c e
          rw [← c, ← e]
      · rw [if_neg e]
        constructor
        · rintro (c | c)
          · exact absurd (by rw [← c]) e
          · exact c.1
        · intro c
          exact .inr ⟨c, fun d => e d.symm⟩
    · have := insQ_len p (srtP l)
      simp only [List.length_append, List.length_cons, List.length_nil]
      omega
theorem srtP_of {l r : List Pr} (hr : RisesP r) (hm : ∀ k u, (k, u) ∈ r ↔ valOf l k = some u) : r = srtP l := risesP_ext hr (srtP_spec l).1 fun ⟨k, u⟩ => by rw [hm, (srtP_spec l).2.1]
/-- The program's way: by places. -/
def addP (D : List Pr) (p : Pr) : List Pr := if p.1 ∈ keysOf D then D.set ((keysOf D).idxOf p.1) p else D ++ [p]
def ddP (l : List Pr) : List Pr := l.foldl addP []
theorem ddP_snoc (l : List Pr) (p : Pr) : ddP (l ++ [p]) = addP (ddP l) p := by simp [ddP]
theorem addP_keys (D : List Pr) (p : Pr) : keysOf (addP D p) = addK (keysOf D) p.1 := by
  unfold addP addK
  split
  · rename_i h
    unfold keysOf at *
    rw [List.map_set]
    have hi := List.idxOf_lt_length_of_mem h
    have := List.getElem_idxOf hi
    refine List.ext_getElem? fun j => ?_
    by_cases hj : (List.map (fun x => x.1) D).idxOf p.1 = j
    · subst hj
      rw [List.getElem?_set_self hi, List.getElem?_eq_getElem hi, this]
    · rw [List.getElem?_set_ne hj]
  · simp [keysOf]
theorem addP_mem {D : List Pr} (hn : (keysOf D).Nodup) (p x : Pr) : x ∈ addP D p ↔ x = p ∨ (x ∈ D ∧ x.1 ≠ p.1) := by
  unfold addP
  split
  · rename_i h
    have hi := List.idxOf_lt_length_of_mem h
    have hik := List.getElem_idxOf hi
    have hiD : (keysOf D).idxOf p.1 < D.length := by simpa [keysOf] using hi
    have hkD : D[(keysOf D).idxOf p.1].1 = p.1 := by
      have h := hik
      simp only [keysOf, List.getElem_map] at h
      exact h
    generalize (keysOf D).idxOf p.1 = i at *
    have hnp := List.pairwise_iff_getElem.1 hn
    have uniq : ∀ j (hj : j < D.length), D[j].1 = p.1 → j = i := fun j hj he => by
      rcases Nat.lt_trichotomy j i with c | c | c
      · have := hnp j i (by simpa [keysOf] using hj) hi c
        simp only [keysOf, List.getElem_map] at this
        exact absurd (he.trans hkD.symm) this
      · exact c
      · have := hnp i j hi (by simpa [keysOf] using hj) c
        simp only [keysOf, List.getElem_map] at this
        exact absurd (hkD.trans he.symm) this
    constructor
    · intro hx
      obtain ⟨j, hj, rfl⟩ := List.getElem_of_mem hx
      rw [List.length_set] at hj
      rw [List.getElem_set]
      by_cases e : i = j
      · rw [if_pos e]; exact .inl rfl
      · rw [if_neg e]
        exact .inr ⟨List.getElem_mem _, fun c => e (uniq j hj c).symm⟩
    · rintro (c | ⟨c, d⟩)
      · rw [c]; exact List.mem_set hiD p
      · obtain ⟨j, hj, rfl⟩ := List.getElem_of_mem c
        have e : i ≠ j := fun e => d (by subst e; exact hkD)
        refine List.mem_of_getElem? (i := j) ?_
        rw [List.getElem?_set_ne e, List.getElem?_eq_getElem hj]
  · rename_i h
    rw [List.mem_append, List.mem_singleton]
    constructor
    · rintro (c | c)
      · exact .inr ⟨c, fun e => h (e ▸ List.mem_map.2 ⟨x, c, rfl⟩)⟩
      · exact .inl c
    · rintro (c | c)
      · exact .inr c
      · exact .inl c.1
theorem ddP_spec (l : List Pr) : (keysOf (ddP l)).Nodup ∧ (∀ k u, (k, u) ∈ ddP l ↔ valOf l k = some u) ∧ (ddP l).length ≤ l.length := by
  refine snocInd (P := fun l => (keysOf (ddP l)).Nodup ∧ (∀ k u, (k, u) ∈ ddP l ↔ valOf l k = some u) ∧ (ddP l).length ≤ l.length) ?_ ?_ l
  · exact ⟨List.nodup_nil, fun k u => by simp [ddP, valOf], by simp [ddP]⟩
  · intro l p ih
    obtain ⟨h1, h2, h3⟩ := ih
    rw [ddP_snoc]
    refine ⟨by rw [addP_keys]; exact addK_nodup h1 _, fun k u => ?_, ?_⟩
    · rw [addP_mem h1, valOf_snoc, h2]
      by_cases e : p.1 = k
      · rw [if_pos e]
        constructor
        · rintro (c | c)
          · rw [← c]
          · exact absurd e.symm c.2
        · intro c
          left
          obtain ⟨a, b⟩ := p
          simp only [Option.some.injEq] at c e
          rw [← c, ← e]
      · rw [if_neg e]
        constructor
        · rintro (c | c)
          · exact absurd (by rw [← c]) e
          · exact c.1
        · intro c
          exact .inr ⟨c, fun d => e d.symm⟩
    · unfold addP
      split
      · simp; omega
      · simp; omega
theorem ddP_sorted {l r : List Pr} (hp : r.Perm (ddP l)) (hr : RisesP r) : r = srtP l := srtP_of hr fun k u => by rw [hp.mem_iff, (ddP_spec l).2.1]
end Go.Proofs.Ytbajggmpklajnab
