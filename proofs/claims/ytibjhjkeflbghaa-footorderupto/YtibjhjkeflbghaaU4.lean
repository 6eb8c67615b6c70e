/- Who wants what, of all places so far; the places that clash, rising: in pure terms. -/
import Derived.Test.YtibjhjkeflbghaaU3
namespace Go.Proofs.Ytibjhjkeflbghaa
open Go.RowKit
set_option maxRecDepth 100000

/-- Who wants which key, of the places below one. -/
def addA (L : List Tx) : Nat → Ky → Bool → List Int
  | 0 => fun _ _ => []
  | k + 1 => addL (addA L k) (k : Int) (lkX (L.getD k default))
theorem addL_mem {i j : Int} {q : Ky} {d : Bool} : ∀ {l : List Lk} {V : Ky → Bool → List Int}, j ∈ addL V i l q d ↔ j ∈ V q d ∨ (j = i ∧ ∃ e, (q, e) ∈ l ∧ (d = true → e = true))
  | [], V => by simp [addL]
  | x :: r, V => by
    show j ∈ addL (add1 V i x) i r q d ↔ _
    rw [addL_mem (l := r) (V := add1 V i x)]
    have h1 : j ∈ add1 V i x q d ↔ j ∈ V q d ∨ (j = i ∧ q = x.1 ∧ (d = true → x.2 = true)) := by
      unfold add1
      by_cases c : q = x.1 ∧ (d = true → x.2 = true)
      · rw [if_pos c, List.mem_append, List.mem_singleton]
        exact ⟨fun h => h.imp id fun e => ⟨e, c⟩, fun h => h.imp id fun e => e.1⟩
      · rw [if_neg c]
        exact ⟨.inl, fun h => h.elim id fun e => absurd e.2 c⟩
    rw [h1]
    constructor
    · rintro ((h | ⟨e, h2, h3⟩) | ⟨e, f, h2, h3⟩)
      · exact .inl h
      · exact .inr ⟨e, x.2, by rw [h2]; exact List.mem_cons_self .., h3⟩
      · exact .inr ⟨e, f, List.mem_cons_of_mem _ h2, h3⟩
    · rintro (h | ⟨e, f, h2, h3⟩)
      · exact .inl (.inl h)
      · rcases List.mem_cons.1 h2 with c | c
        · exact .inl (.inr ⟨e, congrArg Prod.fst c, by rw [← congrArg Prod.snd c]; exact h3⟩)
        · exact .inr ⟨e, f, c, h3⟩
theorem addA_mem {L : List Tx} {q : Ky} {d : Bool} {j : Int} : ∀ {k : Nat}, j ∈ addA L k q d ↔ ∃ i : Nat, i < k ∧ j = (i : Int) ∧ ∃ e, (q, e) ∈ lkX (L.getD i default) ∧ (d = true → e = true)
  | 0 => by
    constructor
    · intro h; cases h
    · rintro ⟨i, hi, _⟩; omega
  | k + 1 => by
    show j ∈ addL (addA L k) (k : Int) (lkX (L.getD k default)) q d ↔ _
    rw [addL_mem (V := addA L k), addA_mem (k := k)]
    constructor
    · rintro (⟨i, hi, h⟩ | ⟨rfl, h⟩)
      · exact ⟨i, by omega, h⟩
      · exact ⟨k, by omega, rfl, h⟩
    · rintro ⟨i, hi, rfl, h⟩
      by_cases e : i = k
      · subst e; exact .inr ⟨rfl, h⟩
      · exact .inl ⟨i, by omega, rfl, h⟩
theorem addA_in {L : List Tx} {k : Nat} (q : Ky) (d : Bool) (j : Int) (h : j ∈ addA L k q d) : 0 ≤ j ∧ j < (k : Int) := by
  obtain ⟨i, hi, rfl, _⟩ := addA_mem.1 h
  omega
theorem addT_len (V : Ky → Bool → List Int) (i : Int) (R W : List Ky) (t : Nat) (q : Ky) (d : Bool) : (addL V i ((lks R W).take t) q d).length ≤ (V q d).length + 1 := by
  have hsub : ((lks R W).take t).Sublist (lks R W) := List.take_sublist _ _
  refine addL_len V i q d _ (fun k a b ha hb => lks_un R W k a b (hsub.subset ha) (hsub.subset hb)) ?_
  exact (lks_nodup R W).sublist (hsub.map _)
theorem addA_len (L : List Tx) (q : Ky) (d : Bool) : ∀ k, (addA L k q d).length ≤ k
  | 0 => Nat.le_refl _
  | k + 1 => by
    have h := addT_len (addA L k) (k : Int) (L.getD k default).rs (L.getD k default).ws (lkX (L.getD k default)).length q d
    have e : (lks (L.getD k default).rs (L.getD k default).ws).take (lkX (L.getD k default)).length = lkX (L.getD k default) := List.take_length
    rw [e] at h
    have := addA_len L q d k
    exact Nat.le_trans h (by omega)
theorem addAT_len (L : List Tx) (k t : Nat) (q : Ky) (d : Bool) : (addL (addA L k) (k : Int) ((lkX (L.getD k default)).take t) q d).length ≤ k + 1 :=
  Nat.le_trans (addT_len (addA L k) (k : Int) (L.getD k default).rs (L.getD k default).ws t q d) (by have := addA_len L q d k; omega)
theorem fnd_cl {L : List Tx} {k : Nat} {j : Int} : fnd (addA L k) (lkX (L.getD k default)) j ↔ ∃ i : Nat, i < k ∧ j = (i : Int) ∧ cl L i k = true := by
  constructor
  · rintro ⟨⟨q, d⟩, hx, hj⟩
    obtain ⟨i, hi, rfl, e, he, hd⟩ := addA_mem.1 hj
    refine ⟨i, hi, rfl, clashP_of (lks_un _ _) he hx ?_⟩
    cases d with
    | true => exact .inr rfl
    | false => exact .inl (hd rfl)
  · rintro ⟨i, hi, rfl, hc⟩
    obtain ⟨q, d, e, h1, h2, h3⟩ := clashP_yes hc
    refine ⟨(q, e), h2, addA_mem.2 ⟨i, hi, rfl, d, h1, fun h => ?_⟩⟩
    rcases h3 with c | c
    · exact c
    · simp only [c, Bool.not_true] at h; cases h
/-- The places that clash with one, rising. -/
def fstI (L : List Tx) (k : Nat) : Nat → List Int
  | 0 => []
  | i + 1 => fstI L k i ++ if cl L i k = true then [(i : Int)] else []
theorem ordI_fst (L : List Tx) (k : Nat) : ∀ i, ordI L k i = (fstI L k i).map fun j => (j, (k : Int))
  | 0 => rfl
  | i + 1 => by
    unfold ordI fstI
    rw [List.map_append, ordI_fst L k i]
    split <;> rfl
theorem fstI_mem {L : List Tx} {k : Nat} {j : Int} : ∀ {m : Nat}, j ∈ fstI L k m ↔ ∃ i : Nat, i < m ∧ j = (i : Int) ∧ cl L i k = true
  | 0 => by
    constructor
    · intro h; cases h
    · rintro ⟨i, hi, _⟩; omega
  | m + 1 => by
    unfold fstI
    rw [List.mem_append, fstI_mem (m := m)]
    by_cases c : cl L m k = true
    · rw [if_pos c, List.mem_singleton]
      constructor
      · rintro (⟨i, hi, h⟩ | rfl)
        · exact ⟨i, by omega, h⟩
        · exact ⟨m, by omega, rfl, c⟩
      · rintro ⟨i, hi, rfl, h⟩
        by_cases e : i = m
        · subst e; exact .inr rfl
        · exact .inl ⟨i, by omega, rfl, h⟩
    · rw [if_neg c]
      constructor
      · rintro (⟨i, hi, h⟩ | h)
        · exact ⟨i, by omega, h⟩
        · cases h
      · rintro ⟨i, hi, rfl, h⟩
        by_cases e : i = m
        · subst e; exact absurd h c
        · exact .inl ⟨i, by omega, rfl, h⟩
theorem fstI_up (L : List Tx) (k : Nat) : ∀ m, (fstI L k m).Pairwise (· < ·)
  | 0 => List.Pairwise.nil
  | m + 1 => by
    unfold fstI
    rw [List.pairwise_append]
    refine ⟨fstI_up L k m, by split <;> simp, fun a ha b hb => ?_⟩
    obtain ⟨i, hi, rfl, _⟩ := fstI_mem.1 ha
    split at hb
    · rw [List.mem_singleton] at hb
      subst hb
      omega
    · cases hb
theorem up_ext : ∀ {a b : List Int}, a.Pairwise (· < ·) → b.Pairwise (· < ·) → (∀ k, k ∈ a ↔ k ∈ b) → a = b
  | [], [], _, _, _ => rfl
  | [], y :: s, _, _, h => by have := (h y).2 (List.mem_cons_self ..); cases this
  | x :: r, [], _, _, h => by have := (h x).1 (List.mem_cons_self ..); cases this
  | x :: r, y :: s, ha, hb, h => by
    have ha' := List.pairwise_cons.1 ha
    have hb' := List.pairwise_cons.1 hb
    have exy : x = y := by
      rcases List.mem_cons.1 ((h x).1 (List.mem_cons_self ..)) with e | e
      · exact e
      · rcases List.mem_cons.1 ((h y).2 (List.mem_cons_self ..)) with e' | e'
        · exact e'.symm
        · have := ha'.1 y e'
          have := hb'.1 x e
          omega
    subst exy
    congr 1
    refine up_ext ha'.2 hb'.2 fun k => ?_
    constructor
    · intro hk
      rcases List.mem_cons.1 ((h k).1 (List.mem_cons_of_mem _ hk)) with e | e
      · subst e; have := ha'.1 k hk; omega
      · exact e
    · intro hk
      rcases List.mem_cons.1 ((h k).2 (List.mem_cons_of_mem _ hk)) with e | e
      · subst e; have := hb'.1 k hk; omega
      · exact e
theorem srtI_up {l : List Int} (hn : l.Nodup) : (srtI l).Pairwise (· < ·) := by
  have h1 : (srtI l).Pairwise fun x y => decide (x ≤ y) = true := List.pairwise_mergeSort (fun a b c h1 h2 => by simp only [decide_eq_true_eq] at *; omega) (fun a b => by simp only [Bool.or_eq_true, decide_eq_true_eq]; omega) l
  have h2 : (srtI l).Nodup := (List.mergeSort_perm l _).nodup_iff.2 hn
  refine (h1.and h2).imp fun h => ?_
  simp only [decide_eq_true_eq] at h
  omega
theorem srtI_fst {L : List Tx} {k n : Nat} {M M' out : List Int} (h : Inv k n M out M' (fnd (addA L k) (lkX (L.getD k default)))) : srtI out = fstI L k k :=
  up_ext (srtI_up h.nodup) (fstI_up L k k) fun j => by
    unfold srtI
    rw [(List.mergeSort_perm out _).mem_iff, h.mem, fnd_cl, fstI_mem]
end Go.Proofs.Ytibjhjkeflbghaa
