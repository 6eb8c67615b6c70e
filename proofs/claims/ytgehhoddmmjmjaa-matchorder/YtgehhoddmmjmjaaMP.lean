/- What a book says, in pure terms: how many are so ('cnt'), what a majority agrees on ('agr'), how it is sorted. -/
namespace Go.Proofs.Ytgehhoddmmjmjaa

/-- How many of the first n are so. -/
def cnt (p : Int → Bool) (f : Nat → Int) : Nat → Nat
  | 0 => 0
  | k + 1 => cnt p f k + if p (f k) then 1 else 0

theorem cnt_le (p : Int → Bool) (f : Nat → Int) (n : Nat) : cnt p f n ≤ n := by
  induction n with
  | zero => exact Nat.le_refl _
  | succ n ih => rw [cnt]; split <;> omega
theorem cnt_mono {p q : Int → Bool} {f g : Nat → Int} {n : Nat} (h : ∀ t, t < n → p (f t) = true → q (g t) = true) : cnt p f n ≤ cnt q g n := by
  induction n with
  | zero => exact Nat.le_refl _
  | succ n ih =>
    have := ih fun t ht => h t (by omega)
    have hn := h n (by omega)
    rw [cnt, cnt]
    cases hp : p (f n)
    · simp; omega
    · rw [hn hp]; simp; omega
theorem cnt_congr {p : Int → Bool} {f g : Nat → Int} {n : Nat} (h : ∀ t, t < n → f t = g t) : cnt p f n = cnt p g n :=
  Nat.le_antisymm (cnt_mono fun t ht e => by rw [← h t ht]; exact e) (cnt_mono fun t ht e => by rw [h t ht]; exact e)
/-- All from m on are so. -/
theorem cnt_from {p : Int → Bool} {f : Nat → Int} {m n : Nat} (h : ∀ t, m ≤ t → t < n → p (f t) = true) : n - m ≤ cnt p f n := by
  induction n with
  | zero => omega
  | succ n ih =>
    have := ih fun t h1 h2 => h t h1 (by omega)
    rw [cnt]
    by_cases c : m ≤ n
    · rw [h n c (by omega)]; simp; omega
    · omega
/-- None below m is so. -/
theorem cnt_till {p : Int → Bool} {f : Nat → Int} {m n : Nat} (h : ∀ t, t < m → t < n → p (f t) = false) : cnt p f n ≤ n - m := by
  induction n with
  | zero => exact Nat.zero_le _
  | succ n ih =>
    have := ih fun t h1 h2 => h t h1 (by omega)
    rw [cnt]
    by_cases c : n < m
    · rw [h n c (by omega)]; simp
      have : cnt p f n = 0 := by have := ih fun t h1 h2 => h t h1 (by omega); omega
      omega
    · split <;> omega
theorem cnt_pos {p : Int → Bool} {f : Nat → Int} {n : Nat} (h : 0 < cnt p f n) : ∃ t, t < n ∧ p (f t) = true := by
  induction n with
  | zero => simp [cnt] at h
  | succ n ih =>
    rw [cnt] at h
    cases c : p (f n)
    · rw [c] at h
      obtain ⟨t, ht, e⟩ := ih (by simpa using h)
      exact ⟨t, by omega, e⟩
    · exact ⟨n, by omega, c⟩
theorem cnt_one {p : Int → Bool} {f : Nat → Int} {n t : Nat} (ht : t < n) (h : p (f t) = true) : 0 < cnt p f n := by
  induction n with
  | zero => omega
  | succ n ih =>
    rw [cnt]
    by_cases c : t = n
    · subst c; rw [h]; simp
    · have := ih (by omega); omega

/-- Two neighbours changed places. -/
def swp (f : Nat → Int) (j : Nat) : Nat → Int := fun t => if t = j then f (j + 1) else if t = j + 1 then f j else f t
theorem swp_l (f : Nat → Int) (j : Nat) : swp f j j = f (j + 1) := by simp [swp]
theorem swp_r (f : Nat → Int) (j : Nat) : swp f j (j + 1) = f j := by simp [swp]
theorem swp_o (f : Nat → Int) {j t : Nat} (h : t ≠ j) (h' : t ≠ j + 1) : swp f j t = f t := by simp [swp, h, h']
theorem cnt_swp (p : Int → Bool) (f : Nat → Int) (j n : Nat) (h : j + 1 < n) : cnt p (swp f j) n = cnt p f n := by
  induction n with
  | zero => omega
  | succ n ih =>
    by_cases c : n = j + 1
    · subst c
      have e : cnt p (swp f j) j = cnt p f j := cnt_congr fun t ht => swp_o f (by omega) (by omega)
      rw [cnt, cnt, cnt, cnt, swp_l, swp_r, e]; omega
    · rw [cnt, cnt, ih (by omega), swp_o f (by omega) (by omega)]

/-- The greatest that more than half reach, as it is looked for. -/
def agrTo (f : Nat → Int) (n : Nat) : Nat → Int
  | 0 => 0
  | k + 1 => if n < 2 * cnt (fun y => decide (f k ≤ y)) f n ∧ agrTo f n k < f k then f k else agrTo f n k
def agr (f : Nat → Int) (n : Nat) : Int := agrTo f n n

/-- What is agreed on. -/
structure IsAgr (f : Nat → Int) (n : Nat) (a : Int) : Prop where
  mem : ∃ t, t < n ∧ f t = a
  most : n < 2 * cnt (fun y => decide (a ≤ y)) f n
  few : 2 * cnt (fun y => decide (a < y)) f n ≤ n

theorem IsAgr.top {f : Nat → Int} {n : Nat} {a x : Int} (h : IsAgr f n a) (hx : n < 2 * cnt (fun y => decide (x ≤ y)) f n) : x ≤ a := by
  apply Decidable.byContradiction; intro c
  have := cnt_mono (p := fun y => decide (x ≤ y)) (q := fun y => decide (a < y)) (f := f) (g := f) (n := n) fun t _ e => by simp at e ⊢; omega
  have := h.few; omega
theorem agrTo_le {f : Nat → Int} {n : Nat} {a : Int} (h : IsAgr f n a) (h0 : 0 ≤ a) (k : Nat) : agrTo f n k ≤ a := by
  induction k with
  | zero => exact h0
  | succ k ih =>
    rw [agrTo]; split
    · rename_i c; exact h.top c.1
    · exact ih
theorem agrTo_ge {f : Nat → Int} {n : Nat} {k t : Nat} (ht : t < k) (h : n < 2 * cnt (fun y => decide (f t ≤ y)) f n) : f t ≤ agrTo f n k := by
  induction k with
  | zero => omega
  | succ k ih =>
    rw [agrTo]
    by_cases c : t = k
    · subst c; split
      · exact Int.le_refl _
      · rename_i c; have : ¬ agrTo f n t < f t := fun e => c ⟨h, e⟩
        omega
    · have := ih (by omega)
      split
      · rename_i c; omega
      · exact this
theorem agr_eq {f : Nat → Int} {n : Nat} {a : Int} (h : IsAgr f n a) (h0 : 0 ≤ a) : agr f n = a := by
  obtain ⟨t, ht, e⟩ := h.mem
  have h1 := agrTo_le h h0 n
  have h2 := agrTo_ge (f := f) (n := n) (k := n) ht (by rw [e]; exact h.most)
  rw [e] at h2
  exact Int.le_antisymm h1 h2

/-- Rising up to n. -/
def Rises (f : Nat → Int) (n : Nat) : Prop := ∀ s t, s < t → t < n → f s ≤ f t

theorem mid_agr {f g : Nat → Int} {n : Nat} (hn : 0 < n) (hg : Rises g n) (hc : ∀ p, cnt p g n = cnt p f n) : IsAgr f n (g ((n - 1) / 2)) := by
  have hm : (n - 1) / 2 < n := by omega
  refine ⟨?_, ?_, ?_⟩
  · have := cnt_one (p := fun y => decide (y = g ((n - 1) / 2))) (f := g) hm (by simp)
    rw [hc] at this
    obtain ⟨t, ht, e⟩ := cnt_pos this
    exact ⟨t, ht, by simpa using e⟩
  · rw [← hc]
    have := cnt_from (p := fun y => decide (g ((n - 1) / 2) ≤ y)) (f := g) (m := (n - 1) / 2) (n := n) fun t h1 h2 => by
      by_cases c : t = (n - 1) / 2
      · subst c; simp
      · have := hg ((n - 1) / 2) t (by omega) h2; simpa using this
    omega
  · rw [← hc]
    have := cnt_till (p := fun y => decide (g ((n - 1) / 2) < y)) (f := g) (m := (n - 1) / 2 + 1) (n := n) fun t h1 h2 => by
      by_cases c : t = (n - 1) / 2
      · subst c; simp
      · have := hg t ((n - 1) / 2) (by omega) hm; simp; omega
    omega

/-- Where the one that is put in stands at j: all pairs up to i but those that end there. -/
def RiseBut (f : Nat → Int) (i j : Nat) : Prop := ∀ s t, s < t → t ≤ i → t ≠ j → f s ≤ f t
theorem riseBut_start {f : Nat → Int} {i : Nat} (h : Rises f i) : RiseBut f i i := fun s t hs ht hne => h s t hs (by omega)
theorem riseBut_step {f : Nat → Int} {i j : Nat} (h : RiseBut f i (j + 1)) (hj : j + 1 ≤ i) (hl : f (j + 1) < f j) : RiseBut (swp f j) i j := by
  intro s t hs ht hne
  by_cases c1 : t = j + 1
  · subst c1
    rw [swp_r]
    by_cases c2 : s = j
    · subst c2; rw [swp_l]; omega
    · rw [swp_o f c2 (by omega)]; exact h s j (by omega) (by omega) (by omega)
  · rw [swp_o f hne c1]
    by_cases c2 : s = j
    · subst c2; rw [swp_l]; exact h (s + 1) t (by omega) ht c1
    · by_cases c3 : s = j + 1
      · subst c3; rw [swp_r]; exact h j t (by omega) ht c1
      · rw [swp_o f c2 c3]; exact h s t hs ht c1
theorem riseBut_zero {f : Nat → Int} {i : Nat} (h : RiseBut f i 0) : Rises f (i + 1) := fun s t hs ht => h s t hs (by omega) (by omega)
theorem riseBut_stop {f : Nat → Int} {i j : Nat} (h : RiseBut f i (j + 1)) (hj : j + 1 ≤ i) (hl : f j ≤ f (j + 1)) : Rises f (i + 1) := fun s t hs ht => by
  by_cases c : t = j + 1
  · subst c
    by_cases c2 : s = j
    · subst c2; exact hl
    · have := h s j (by omega) (by omega) (by omega); omega
  · exact h s t hs (by omega) c

/-- There is a rising one. -/
theorem ex_insert (i : Nat) : ∀ j (f : Nat → Int), j ≤ i → RiseBut f i j → ∃ g, Rises g (i + 1) ∧ (∀ p n, i < n → cnt p g n = cnt p f n) := by
  intro j
  induction j with
  | zero => exact fun f _ h => ⟨f, riseBut_zero h, fun _ _ _ => rfl⟩
  | succ j ih =>
    intro f hj h
    by_cases c : f (j + 1) < f j
    · obtain ⟨g, h1, h2⟩ := ih (swp f j) (by omega) (riseBut_step h hj c)
      exact ⟨g, h1, fun p n hn => by rw [h2 p n hn, cnt_swp p f j n (by omega)]⟩
    · exact ⟨f, riseBut_stop h hj (by omega), fun _ _ _ => rfl⟩
theorem ex_sorted (f : Nat → Int) (n : Nat) : ∀ i, i ≤ n → ∃ g, Rises g i ∧ ∀ p, cnt p g n = cnt p f n := by
  intro i
  induction i with
  | zero => exact fun _ => ⟨f, fun s t _ h => by omega, fun _ => rfl⟩
  | succ i ih =>
    intro hi
    obtain ⟨g, h1, h2⟩ := ih (by omega)
    obtain ⟨g', k1, k2⟩ := ex_insert i i g (Nat.le_refl _) (riseBut_start h1)
    exact ⟨g', k1, fun p => by rw [k2 p n (by omega), h2]⟩
theorem agr_is {f : Nat → Int} {n : Nat} (hn : 0 < n) (h0 : ∀ t, t < n → 0 ≤ f t) : IsAgr f n (agr f n) := by
  obtain ⟨g, h1, h2⟩ := ex_sorted f n n (Nat.le_refl _)
  have h := mid_agr hn h1 h2
  obtain ⟨t, ht, e⟩ := h.mem
  rw [agr_eq h (by rw [← e]; exact h0 t ht)]
  exact h
theorem agr_ge0 {f : Nat → Int} {n : Nat} (hn : 0 < n) (h0 : ∀ t, t < n → 0 ≤ f t) : 0 ≤ agr f n := by
  obtain ⟨t, ht, e⟩ := (agr_is hn h0).mem
  rw [← e]; exact h0 t ht
theorem agr_mono {f g : Nat → Int} {n : Nat} (hn : 0 < n) (h0 : ∀ t, t < n → 0 ≤ f t) (hg : ∀ t, t < n → f t ≤ g t) : agr f n ≤ agr g n := by
  have hf := agr_is hn h0
  have hG := agr_is hn fun t ht => Int.le_trans (h0 t ht) (hg t ht)
  refine hG.top ?_
  have := cnt_mono (p := fun y => decide (agr f n ≤ y)) (q := fun y => decide (agr f n ≤ y)) (f := f) (g := g) (n := n) fun t ht e => by
    have := hg t ht; simp at e ⊢; omega
  have := hf.most; omega
theorem agrTo_congr {f g : Nat → Int} {n : Nat} (h : ∀ t, t < n → f t = g t) (k : Nat) (hk : k ≤ n) : agrTo f n k = agrTo g n k := by
  induction k with
  | zero => rfl
  | succ k ih => rw [agrTo, agrTo, ih (by omega), h k (by omega), cnt_congr (p := fun y => decide (g k ≤ y)) h]
theorem agr_congr {f g : Nat → Int} {n : Nat} (h : ∀ t, t < n → f t = g t) : agr f n = agr g n := agrTo_congr h n (Nat.le_refl _)

end Go.Proofs.Ytgehhoddmmjmjaa
