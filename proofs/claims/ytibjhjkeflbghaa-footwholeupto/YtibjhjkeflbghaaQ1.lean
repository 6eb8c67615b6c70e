/- Levels, in pure terms: those of one level don't stand in each other's way; each above the first meets one of the level below, ahead of it. -/
import Derived.Test.YtibjhjkeflbghaaQ0
namespace Go.Proofs.Ytibjhjkeflbghaa
open Go.RowKit
set_option maxRecDepth 100000

theorem int_cells {y : World} {v : Value} {l : List Int} (hs : SeesL nC 1 y v l) {ao : Option Addr} {n cap : Nat} (hv : v = .slice ao n cap) {t : Nat} (ht : t < l.length) : ∃ gb ob, ao = some ⟨gb, ob, none⟩ ∧ y.cell? ⟨gb, ob + t, none⟩ = some (.int .i64 (l.getD t 0)) := by
  obtain ⟨ao', cap', gb, ob, hv', hao, hcl⟩ := SeesL.at hs
  rw [hv] at hv'
  simp only [Value.slice.injEq] at hv'
  obtain ⟨rfl, rfl, rfl⟩ := hv'
  refine ⟨gb, ob, hao (by omega), ?_⟩
  have := hcl t ht 0 (by omega)
  simpa [nC] using this
theorem int_at {y : World} {l : List Int} {gb ob n cap : Nat} (hs : SeesL nC 1 y (.slice (some ⟨gb, ob, none⟩) n cap) l) {t : Nat} (ht : t < l.length) : y.cell? ⟨gb, ob + t, none⟩ = some (.int .i64 (l.getD t 0)) := by
  obtain ⟨g, o, e, h⟩ := int_cells hs rfl ht
  simp only [Option.some.injEq, Addr.mk.injEq, and_true] at e
  obtain ⟨rfl, rfl⟩ := e
  exact h
/-! ### locks -/
theorem lkF_some {l : List Lk} {k : Ky} {e : Bool} : lkF l k = some e → (k, e) ∈ l := by
  have : ∀ (l : List Lk) (o : Option Bool), l.foldl (fun o y => if k = y.1 then some y.2 else o) o = some e → o = some e ∨ (k, e) ∈ l := fun l => by
    induction l with
    | nil => intro o h; exact .inl h
    | cons y r ih =>
      intro o h
      rw [List.foldl_cons] at h
      rcases ih _ h with c | c
      · by_cases hk : k = y.1
        · rw [if_pos hk] at c
          injection c with c
          exact .inr (by subst hk; subst c; exact List.mem_cons_self ..)
        · rw [if_neg hk] at c
          exact .inl c
      · exact .inr (List.mem_cons_of_mem _ c)
  intro h
  rcases this l none h with c | c
  · cases c
  · exact c
/-- Locks whose keys are unlike. -/
def UnL (l : List Lk) : Prop := ∀ k d e, (k, d) ∈ l → (k, e) ∈ l → d = e
theorem lkF_mem {l : List Lk} (hu : UnL l) {k : Ky} {e : Bool} (h : (k, e) ∈ l) : lkF l k = some e := by
  have h1 : ∀ (l : List Lk) (o : Option Bool), (o.isSome ∨ ∃ d, (k, d) ∈ l) → (l.foldl (fun o y => if k = y.1 then some y.2 else o) o).isSome := fun l => by
    induction l with
    | nil =>
      intro o h
      rcases h with h | ⟨d, h⟩
      · exact h
      · cases h
    | cons y r ih =>
      intro o h
      rw [List.foldl_cons]
      refine ih _ ?_
      by_cases hk : k = y.1
      · rw [if_pos hk]; exact .inl rfl
      · rw [if_neg hk]
        rcases h with h | ⟨d, h⟩
        · exact .inl h
        · rcases List.mem_cons.1 h with c | c
          · exact absurd (congrArg Prod.fst c) hk
          · exact .inr ⟨d, c⟩
  obtain ⟨d, hd⟩ := Option.isSome_iff_exists.1 (h1 l none (.inr ⟨e, h⟩))
  have : lkF l k = some d := hd
  rw [this, hu k d e (lkF_some this) h]
theorem lks_un (R W : List Ky) : UnL (lks R W) := fun k d e hd he => by
  obtain ⟨a, _, ha⟩ := List.mem_map.1 hd
  obtain ⟨b, _, hb⟩ := List.mem_map.1 he
  injection ha with a1 a2
  injection hb with b1 b2
  subst a1
  subst b1
  rw [← a2, ← b2]
theorem clashP_yes {A B : List Lk} : clashP A B = true → ∃ k d e, (k, d) ∈ A ∧ (k, e) ∈ B ∧ (d = true ∨ e = true) := fun h => by
  obtain ⟨⟨k, d⟩, hx, hh⟩ := List.any_eq_true.1 h
  unfold hit at hh
  simp only at hh
  cases hf : lkF B k with
  | none => rw [hf] at hh; cases hh
  | some e =>
    rw [hf] at hh
    simp only [Bool.or_eq_true] at hh
    exact ⟨k, d, e, hx, lkF_some hf, hh⟩
theorem clashP_of {A B : List Lk} (hu : UnL B) {k : Ky} {d e : Bool} (h1 : (k, d) ∈ A) (h2 : (k, e) ∈ B) (h : d = true ∨ e = true) : clashP A B = true := by
  refine List.any_eq_true.2 ⟨_, h1, ?_⟩
  unfold hit
  simp only
  rw [lkF_mem hu h2]
  simpa using h

/-! ### what is kept by keys -/
theorem raiseP_fst (lv : Int) (k : Ky) : ∀ (l : List Lk) (g : Lst), ((k, true) ∈ l → (raiseP g lv l k).1 = lv) ∧ ((k, true) ∉ l → (raiseP g lv l k).1 = (g k).1) := fun l => by
  have key : ∀ (l : List Lk) (g : Lst), (g k).1 = lv → (raiseP g lv l k).1 = lv := fun l => by
    induction l with
    | nil => intro g h; exact h
    | cons x r ih =>
      intro g h
      refine ih (raise1 g lv x) ?_
      unfold raise1
      by_cases c : k = x.1
      · rw [if_pos c]; simp only; split
        · rfl
        · exact h
      · rw [if_neg c]; exact h
  induction l with
  | nil => intro g; exact ⟨fun h => (by cases h), fun _ => rfl⟩
  | cons x r ih =>
    intro g
    obtain ⟨h1, h2⟩ := ih (raise1 g lv x)
    constructor
    · intro h
      rcases List.mem_cons.1 h with c | c
      · subst c
        refine key r (raise1 g lv (k, true)) ?_
        unfold raise1
        simp
      · exact h1 c
    · intro h
      have hn : (k, true) ∉ r := fun c => h (List.mem_cons_of_mem _ c)
      refine (h2 hn).trans ?_
      unfold raise1
      by_cases c : k = x.1
      · rw [if_pos c]
        simp only
        split
        · rename_i hx
          exact absurd (by subst c; rw [← hx]; exact List.mem_cons_self ..) h
        · rfl
      · rw [if_neg c]
theorem raiseP_snd (lv : Int) (k : Ky) : ∀ (l : List Lk) (g : Lst), ((∃ d, (k, d) ∈ l) → (raiseP g lv l k).2 = max (g k).2 lv) ∧ ((¬ ∃ d, (k, d) ∈ l) → (raiseP g lv l k).2 = (g k).2) := fun l => by
  induction l with
  | nil => intro g; exact ⟨fun ⟨_, h⟩ => (by cases h), fun _ => rfl⟩
  | cons x r ih =>
    intro g
    obtain ⟨h1, h2⟩ := ih (raise1 g lv x)
    have e : (raise1 g lv x k).2 = if k = x.1 then max (g k).2 lv else (g k).2 := by
      unfold raise1
      split <;> rfl
    by_cases c : ∃ d, (k, d) ∈ r
    · refine ⟨fun _ => ?_, fun h => absurd (Exists.imp (fun d hd => List.mem_cons_of_mem _ hd) c) h⟩
      refine (h1 c).trans ?_
      rw [e]
      split <;> omega
    · refine ⟨fun ⟨d, hd⟩ => ?_, fun h => ?_⟩
      · refine (h2 c).trans ?_
        rw [e]
        rcases List.mem_cons.1 hd with q | q
        · rw [if_pos (congrArg Prod.fst q)]
        · exact absurd ⟨d, q⟩ c
      · refine (h2 c).trans ?_
        rw [e]
        rw [if_neg]
        intro q
        exact h ⟨x.2, by subst q; exact List.mem_cons_self ..⟩
def side1 (g : Lst) (x : Lk) : Int := if x.2 then (g x.1).2 else (g x.1).1
theorem levelP_ge {g : Lst} {l : List Lk} {x : Lk} (h : x ∈ l) : side1 g x ≤ levelP g l := by
  have h0 : ∀ (l : List Lk) (a : Int), a ≤ l.foldl (fun lv x => max lv (if x.2 then (g x.1).2 else (g x.1).1)) a := fun l => by
    induction l with
    | nil => intro a; exact Int.le_refl _
    | cons y r ih => intro a; rw [List.foldl_cons]; exact Int.le_trans (by omega) (ih _)
  have : ∀ (l : List Lk) (a : Int), x ∈ l → side1 g x ≤ l.foldl (fun lv x => max lv (if x.2 then (g x.1).2 else (g x.1).1)) a := fun l => by
    induction l with
    | nil => intro a h; cases h
    | cons y r ih =>
      intro a h
      rw [List.foldl_cons]
      rcases List.mem_cons.1 h with c | c
      · subst c
        refine Int.le_trans ?_ (h0 _ _)
        unfold side1
        omega
      · exact ih _ c
  exact this l 0 h
theorem levelP_at (g : Lst) (l : List Lk) : levelP g l = 0 ∨ ∃ x ∈ l, levelP g l = side1 g x := by
  have : ∀ (l : List Lk) (a : Int), l.foldl (fun lv x => max lv (if x.2 then (g x.1).2 else (g x.1).1)) a = a ∨ ∃ x ∈ l, l.foldl (fun lv x => max lv (if x.2 then (g x.1).2 else (g x.1).1)) a = side1 g x := fun l => by
    induction l with
    | nil => intro a; exact .inl rfl
    | cons y r ih =>
      intro a
      rw [List.foldl_cons]
      rcases ih (max a (if y.2 then (g y.1).2 else (g y.1).1)) with c | ⟨x, hx, c⟩
      · rw [c]
        rcases Int.le_total a (side1 g y) with d | d
        · exact .inr ⟨y, List.mem_cons_self .., Int.max_eq_right d⟩
        · exact .inl (Int.max_eq_left d)
      · exact .inr ⟨x, List.mem_cons_of_mem _ hx, c⟩
  exact this l 0

/-! ### all levels -/
theorem runP_pre (l : List Tx) {m : Nat} (hm : m ≤ l.length) : (runP (l.take m)).2 = (levelsP l).take m := by
  have : ∀ d, m + d ≤ l.length → (runP (l.take m)).2 = (runP (l.take (m + d))).2.take m := fun d => by
    induction d with
    | zero =>
      intro _
      exact (List.take_of_length_le (by rw [runP_len, List.length_take]; omega)).symm
    | succ d ih =>
      intro h
      rw [ih (by omega), ← Nat.add_assoc, List.take_succ_eq_append_getElem (i := m + d) (by omega), runP_snoc]
      show _ = ((runP (l.take (m + d))).2 ++ _).take m
      rw [List.take_append_of_le_length (by rw [runP_len, List.length_take]; omega)]
  have h := this (l.length - m) (by omega)
  rw [h, show m + (l.length - m) = l.length by omega, List.take_length]
  rfl
def lvl (l : List Tx) (i : Nat) : Int := (levelsP l).getD i 0
theorem levelsP_len (l : List Tx) : (levelsP l).length = l.length := runP_len l
theorem lvl_at (l : List Tx) {m : Nat} (hm : m < l.length) : lvl l m = levelP (runP (l.take m)).1 (lkX l[m]) := by
  have h := runP_pre l (m := m + 1) (by omega)
  rw [List.take_succ_eq_append_getElem hm, runP_snoc] at h
  have h' : (runP (l.take m)).2 ++ [levelP (runP (l.take m)).1 (lkX l[m])] = (levelsP l).take (m + 1) := h
  have e : ((levelsP l).take (m + 1))[m]? = some (levelP (runP (l.take m)).1 (lkX l[m])) := by
    rw [← h', List.getElem?_append_right (by rw [runP_len, List.length_take]; omega)]
    rw [runP_len, List.length_take, Nat.min_eq_left (by omega), Nat.sub_self]
    rfl
  rw [List.getElem?_take, if_pos (by omega)] at e
  unfold lvl
  rw [List.getD_eq_getElem?_getD, e]
  rfl
/-- What is kept by keys behind so many. -/
structure Kept (l : List Tx) (m : Nat) (g : Lst) : Prop where
  up : ∀ i, (h : i < l.length) → i < m → ∀ x ∈ lkX l[i], lvl l i + 1 ≤ (g x.1).2 ∧ (x.2 = true → lvl l i + 1 ≤ (g x.1).1)
  one : ∀ k, 0 < (g k).1 → ∃ i, ∃ h : i < l.length, i < m ∧ (k, true) ∈ lkX l[i] ∧ (g k).1 = lvl l i + 1
  any : ∀ k, 0 < (g k).2 → ∃ i, ∃ h : i < l.length, i < m ∧ ∃ d, (k, d) ∈ lkX l[i] ∧ (g k).2 = lvl l i + 1
  le : ∀ k, (g k).1 ≤ (g k).2
theorem kept_run (l : List Tx) : ∀ m, m ≤ l.length → Kept l m (runP (l.take m)).1 := fun m => by
  induction m with
  | zero =>
    intro _
    have e : (runP (l.take 0)).1 = fun _ => (0, 0) := rfl
    rw [e]
    exact ⟨fun i _ h => absurd h (by omega), fun k h => absurd h (by decide), fun k h => absurd h (by decide), fun k => Int.le_refl _⟩
  | succ m ih =>
    intro hm
    have hm' : m < l.length := by omega
    have K := ih (by omega)
    have hlo : Lo (l.take m).length (runP (l.take m)).1 := runP_lo (l.take m)
    have hlv := lvl_at l hm'
    have hge : 0 ≤ lvl l m := by rw [hlv]; exact (levelP_le hlo (by omega) _).1
    rw [List.take_succ_eq_append_getElem hm', runP_snoc]
    show Kept l (m + 1) (raiseP (runP (l.take m)).1 (levelP (runP (l.take m)).1 (lkX l[m]) + 1) (lkX l[m]))
    rw [← hlv]
    have hside : ∀ k, (k, true) ∈ lkX l[m] → ((runP (l.take m)).1 k).2 ≤ lvl l m := fun k hk => by
      have := levelP_ge (g := (runP (l.take m)).1) hk
      rw [hlv]
      exact this
    generalize (runP (l.take m)).1 = g at K hside hlo
    have hF := fun k => raiseP_fst (lvl l m + 1) k (lkX l[m]) g
    have hS := fun k => raiseP_snd (lvl l m + 1) k (lkX l[m]) g
    generalize raiseP g (lvl l m + 1) (lkX l[m]) = g' at hF hS
    have g1 : ∀ k, (g k).1 ≤ (g' k).1 := fun k => by
      by_cases c : (k, true) ∈ lkX l[m]
      · rw [(hF k).1 c]
        have := K.le k
        have := hside k c
        omega
      · rw [(hF k).2 c]; exact Int.le_refl _
    have g2 : ∀ k, (g k).2 ≤ (g' k).2 := fun k => by
      by_cases c : ∃ d, (k, d) ∈ lkX l[m]
      · rw [(hS k).1 c]; omega
      · rw [(hS k).2 c]; exact Int.le_refl _
    refine ⟨fun i h hi x hx => ?_, fun k hk => ?_, fun k hk => ?_, fun k => ?_⟩
    · by_cases c : i = m
      · subst c
        constructor
        · rw [(hS x.1).1 ⟨x.2, hx⟩]; omega
        · intro h2
          rw [(hF x.1).1 (by rw [← h2]; exact hx)]
          exact Int.le_refl _
      · obtain ⟨a, b⟩ := K.up i h (by omega) x hx
        exact ⟨Int.le_trans a (g2 _), fun q => Int.le_trans (b q) (g1 _)⟩
    · by_cases c : (k, true) ∈ lkX l[m]
      · exact ⟨m, hm', by omega, c, (hF k).1 c⟩
      · rw [(hF k).2 c] at hk ⊢
        obtain ⟨i, h, hi, r⟩ := K.one k hk
        exact ⟨i, h, by omega, r⟩
    · by_cases c : ∃ d, (k, d) ∈ lkX l[m]
      · rw [(hS k).1 c] at hk ⊢
        rcases Int.le_total (g k).2 (lvl l m + 1) with q | q
        · rw [Int.max_eq_right q]
          obtain ⟨d, hd⟩ := c
          exact ⟨m, hm', by omega, d, hd, rfl⟩
        · rw [Int.max_eq_left q] at hk ⊢
          obtain ⟨i, h, hi, r⟩ := K.any k hk
          exact ⟨i, h, by omega, r⟩
      · rw [(hS k).2 c] at hk ⊢
        obtain ⟨i, h, hi, r⟩ := K.any k hk
        exact ⟨i, h, by omega, r⟩
    · by_cases c : (k, true) ∈ lkX l[m]
      · rw [(hF k).1 c, (hS k).1 ⟨true, c⟩]; omega
      · rw [(hF k).2 c]
        exact Int.le_trans (K.le k) (g2 k)
theorem lvl_bounds (l : List Tx) {m : Nat} (hm : m < l.length) : 0 ≤ lvl l m ∧ lvl l m ≤ l.length := by
  have hlo : Lo (l.take m).length (runP (l.take m)).1 := runP_lo (l.take m)
  have := levelP_le hlo (by omega) (lkX l[m])
  rw [← lvl_at l hm, List.length_take] at this
  omega
/-- Those that stand in each other's way stand on levels that rise. -/
theorem lvl_apart (l : List Tx) {i k : Nat} (hi : i < l.length) (hk : k < l.length) (hik : i < k) (hc : clashP (lkX l[i]) (lkX l[k]) = true) : lvl l i < lvl l k := by
  have K := kept_run l k (by omega)
  obtain ⟨x, d, e, h1, h2, hd⟩ := clashP_yes hc
  obtain ⟨a, b⟩ := K.up i hi hik _ h1
  have hge := levelP_ge (g := (runP (l.take k)).1) h2
  rw [← lvl_at l hk] at hge
  unfold side1 at hge
  dsimp only at a b hge
  cases e with
  | true => simp only [if_true] at hge; omega
  | false =>
    have hd' : d = true := by simpa using hd
    have := b hd'
    simp only [Bool.false_eq_true, if_false] at hge
    omega
/-- One above the first level is held up by one of the level below. -/
theorem lvl_below (l : List Tx) {k : Nat} (hk : k < l.length) : lvl l k = 0 ∨ ∃ i, ∃ h : i < l.length, i < k ∧ clashP (lkX l[i]) (lkX l[k]) = true ∧ lvl l i = lvl l k - 1 := by
  have K := kept_run l k (by omega)
  have hb := lvl_bounds l hk
  rcases levelP_at (runP (l.take k)).1 (lkX l[k]) with c | ⟨x, hx, c⟩
  · exact .inl ((lvl_at l hk).trans c)
  · rw [← lvl_at l hk] at c
    by_cases h0 : lvl l k = 0
    · exact .inl h0
    · right
      unfold side1 at c
      obtain ⟨q, d⟩ := x
      cases d with
      | true =>
        simp only [if_true] at c
        obtain ⟨i, h, hi, d, hd, e⟩ := K.any q (by omega)
        exact ⟨i, h, hi, clashP_of (lks_un _ _) hd hx (.inr rfl), by omega⟩
      | false =>
        simp only [Bool.false_eq_true, if_false] at c
        obtain ⟨i, h, hi, hd, e⟩ := K.one q (by omega)
        exact ⟨i, h, hi, clashP_of (lks_un _ _) hd hx (.inl rfl), by omega⟩
end Go.Proofs.Ytibjhjkeflbghaa
