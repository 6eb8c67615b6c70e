/- Several texts as one. -/
import Derived.Test.YtldapckooohigaaDoorJSC

/- Keys in order, each once, and pairs as a map, in pure terms. -/
namespace Go.Proofs.YtldapckooohigaaDoor
set_option maxRecDepth 100000

/-! ### keys -/
/-- Two rising lists of the same keys are one. -/
theorem rises_ext : ∀ {a b : List Ky}, Rises a → Rises b → (∀ k, k ∈ a ↔ k ∈ b) → a = b
  | [], [], _, _, _ => rfl
  | [], y :: s, _, _, h => by have := (h y).2 (List.mem_cons_self ..); cases this
  | x :: r, [], _, _, h => by have := (h x).1 (List.mem_cons_self ..); cases this
  | x :: r, y :: s, ha, hb, h => by
    have ha' := List.pairwise_cons.1 ha
    have hb' := List.pairwise_cons.1 hb
    have exy : x = y := by
      rcases List.mem_cons.1 ((h x).1 (List.mem_cons_self ..)) with e | e
      · exact e
      · rcases List.mem_cons.1 ((h y).2 (List.mem_cons_self ..)) with e' | e'
        · exact e'.symm
        · exact absurd (ltK_trans (ha'.1 y e') (hb'.1 x e)) (ltK_irrefl _)
    subst exy
    congr 1
    refine rises_ext ha'.2 hb'.2 fun k => ?_
    constructor
    · intro hk
      rcases List.mem_cons.1 ((h k).1 (List.mem_cons_of_mem _ hk)) with e | e
      · subst e; exact absurd (ha'.1 k hk) (ltK_irrefl _)
      · exact e
    · intro hk
      rcases List.mem_cons.1 ((h k).2 (List.mem_cons_of_mem _ hk)) with e | e
      · subst e; exact absurd (hb'.1 k hk) (ltK_irrefl _)
      · exact e
/-- A key put where it belongs. -/
def insK (k : Ky) : List Ky → List Ky
  | [] => [k]
  | a :: r => if ltK a k then a :: insK k r else if a = k then a :: r else k :: a :: r
theorem insK_mem (k x : Ky) : ∀ l, x ∈ insK k l ↔ x = k ∨ x ∈ l
  | [] => by simp [insK]
  | a :: r => by
    unfold insK
    split
    · rw [List.mem_cons, insK_mem k x r, List.mem_cons]
      constructor
      · rintro (h | h | h)
        · exact .inr (.inl h)
        · exact .inl h
        · exact .inr (.inr h)
      · rintro (h | h | h)
        · exact .inr (.inl h)
        · exact .inl h
        · exact .inr (.inr h)
    · split
      · rename_i e
        subst e
        constructor
        · exact .inr
        · rintro (h | h)
          · rw [h]; exact List.mem_cons_self ..
          · exact h
      · rw [List.mem_cons]
theorem insK_rises (k : Ky) : ∀ l, Rises l → Rises (insK k l)
  | [], _ => List.pairwise_singleton _ _
  | a :: r, h => by
    have h' := List.pairwise_cons.1 h
    unfold insK
    split
    · rename_i hak
      refine List.pairwise_cons.2 ⟨fun x hx => ?_, insK_rises k r h'.2⟩
      rcases (insK_mem k x r).1 hx with e | e
      · rw [e]; exact hak
      · exact h'.1 x e
    · rename_i hak
      split
      · exact h
      · rename_i hne
        have hka : ltK k a := Decidable.byContradiction fun c => hne (ltK_total hak c)
        refine List.pairwise_cons.2 ⟨fun x hx => ?_, h⟩
        rcases List.mem_cons.1 hx with e | e
        · rw [e]; exact hka
        · exact ltK_trans hka (h'.1 x e)
theorem insK_len (k : Ky) : ∀ l, (insK k l).length ≤ l.length + 1
  | [] => by simp [insK]
  | a :: r => by
    unfold insK
    have := insK_len k r
    (repeat' split) <;> simp only [List.length_cons] <;> omega
/-- Where a key belongs. -/
def plc (k : Ky) : List Ky → Nat
  | [] => 0
  | a :: r => if ltK a k then plc k r + 1 else 0
theorem plc_le (k : Ky) : ∀ l, plc k l ≤ l.length
  | [] => Nat.le_refl _
  | a :: r => by unfold plc; have := plc_le k r; split <;> simp; omega
theorem plc_below (k : Ky) : ∀ (l : List Ky) (i : Nat) x, i < plc k l → l[i]? = some x → ltK x k
  | [], i, x, h, _ => by simp [plc] at h
  | a :: r, i, x, h, hx => by
    unfold plc at h
    split at h
    · rename_i hl
      cases i with
      | zero => obtain rfl : a = x := by simpa using hx
                exact hl
      | succ i => exact plc_below k r i x (by omega) (by simpa using hx)
    · omega
theorem plc_at (k : Ky) : ∀ (l : List Ky) x, l[plc k l]? = some x → ¬ ltK x k
  | [], x, h => by simp at h
  | a :: r, x, h => by
    by_cases hl : ltK a k
    · have e : plc k (a :: r) = plc k r + 1 := by simp [plc, hl]
      rw [e] at h
      exact plc_at k r x (by simpa using h)
    · have e : plc k (a :: r) = 0 := by simp [plc, hl]
      rw [e] at h
      obtain rfl : a = x := by simpa using h
      exact hl
theorem plc_unique {k : Ky} {l : List Ky} {m : Nat} (hm : m ≤ l.length) (hb : ∀ i x, i < m → l[i]? = some x → ltK x k) (ha : ∀ x, l[m]? = some x → ¬ ltK x k) : m = plc k l := by
  have h1 := plc_le k l
  rcases Nat.lt_trichotomy m (plc k l) with c | c | c
  · have hx : l[m]? = some (l[m]'(by omega)) := List.getElem?_eq_getElem _
    exact absurd (plc_below k l m _ c hx) (ha _ hx)
  · exact c
  · have hx : l[plc k l]? = some (l[plc k l]'(by omega)) := List.getElem?_eq_getElem _
    exact absurd (hb _ _ c hx) (plc_at k l _ hx)
theorem insK_plc (k : Ky) : ∀ l, insK k l = if l[plc k l]? = some k then l else l.take (plc k l) ++ k :: l.drop (plc k l)
  | [] => by simp [insK, plc]
  | a :: r => by
    unfold insK
    by_cases hl : ltK a k
    · have e : plc k (a :: r) = plc k r + 1 := by simp [plc, hl]
      rw [if_pos hl, e, insK_plc k r]
      simp only [List.getElem?_cons_succ]
      split <;> simp
    · have e : plc k (a :: r) = 0 := by simp [plc, hl]
      rw [if_neg hl, e]
      simp
/-- The keys of a list, rising, each once. -/
def srt (l : List Ky) : List Ky := l.foldl (fun o k => insK k o) []
theorem srt_snoc (l : List Ky) (k : Ky) : srt (l ++ [k]) = insK k (srt l) := by simp [srt]
theorem foldI_mem (x : Ky) : ∀ (l o : List Ky), x ∈ l.foldl (fun o k => insK k o) o ↔ x ∈ l ∨ x ∈ o
  | [], o => by simp
  | k :: r, o => by
    rw [List.foldl_cons, foldI_mem x r, insK_mem, List.mem_cons]
    constructor
    · rintro (h | h | h)
      · exact .inl (.inr h)
      · exact .inl (.inl h)
      · exact .inr h
    · rintro ((h | h) | h)
      · exact .inr (.inl h)
      · exact .inl h
      · exact .inr (.inr h)
theorem srt_mem (x : Ky) (l : List Ky) : x ∈ srt l ↔ x ∈ l := by
  unfold srt
  rw [foldI_mem]
  simp
theorem foldI_rises : ∀ (l o : List Ky), Rises o → Rises (l.foldl (fun o k => insK k o) o)
  | [], _, h => h
  | k :: r, o, h => foldI_rises r _ (insK_rises k o h)
theorem srt_rises (l : List Ky) : Rises (srt l) := foldI_rises l [] List.Pairwise.nil
theorem foldI_len : ∀ (l o : List Ky), (l.foldl (fun o k => insK k o) o).length ≤ o.length + l.length
  | [], o => by simp
  | k :: r, o => by
    rw [List.foldl_cons, List.length_cons]
    have := foldI_len r (insK k o)
    have := insK_len k o
    omega
theorem srt_len (l : List Ky) : (srt l).length ≤ l.length := by
  have := foldI_len l []
  simpa [srt] using this
theorem srt_of {l r : List Ky} (hr : Rises r) (hm : ∀ k, k ∈ r ↔ k ∈ l) : r = srt l := rises_ext hr (srt_rises l) fun k => by rw [hm, srt_mem]

/-- The program's way: each once, in the order in which they came. -/
def addK (D : List Ky) (k : Ky) : List Ky := if k ∈ D then D else D ++ [k]
def dd (l : List Ky) : List Ky := l.foldl addK []
theorem dd_snoc (l : List Ky) (k : Ky) : dd (l ++ [k]) = addK (dd l) k := by simp [dd]
theorem addK_mem (D : List Ky) (k x : Ky) : x ∈ addK D k ↔ x ∈ D ∨ x = k := by
  unfold addK
  split
  · rename_i h
    constructor
    · exact .inl
    · rintro (c | c)
      · exact c
      · rw [c]; exact h
  · simp
theorem addK_nodup {D : List Ky} (h : D.Nodup) (k : Ky) : (addK D k).Nodup := by
  unfold addK
  split
  · exact h
  · rename_i hk
    refine List.nodup_append.2 ⟨h, by simp, fun a ha b hb => ?_⟩
    rw [List.mem_singleton] at hb
    subst hb
    exact fun e => hk (e ▸ ha)
theorem addK_len (D : List Ky) (k : Ky) : (addK D k).length ≤ D.length + 1 := by
  unfold addK
  split <;> simp
theorem foldA : ∀ (l D : List Ky), D.Nodup → (l.foldl addK D).Nodup ∧ (∀ x, x ∈ l.foldl addK D ↔ x ∈ D ∨ x ∈ l) ∧ (l.foldl addK D).length ≤ D.length + l.length
  | [], D, h => ⟨h, by simp, by simp⟩
  | k :: r, D, h => by
    obtain ⟨h1, h2, h3⟩ := foldA r (addK D k) (addK_nodup h k)
    rw [List.foldl_cons]
    refine ⟨h1, fun x => ?_, ?_⟩
    · rw [h2, addK_mem, List.mem_cons]
      constructor
      · rintro ((c | c) | c)
        · exact .inl c
        · exact .inr (.inl c)
        · exact .inr (.inr c)
      · rintro (c | c | c)
        · exact .inl (.inl c)
        · exact .inl (.inr c)
        · exact .inr c
    · have := addK_len D k
      rw [List.length_cons]
      omega
theorem dd_nodup (l : List Ky) : (dd l).Nodup := (foldA l [] List.nodup_nil).1
theorem dd_mem (l : List Ky) (x : Ky) : x ∈ dd l ↔ x ∈ l := by
  have := (foldA l [] List.nodup_nil).2.1 x
  simpa [dd] using this
theorem dd_len (l : List Ky) : (dd l).length ≤ l.length := by
  have := (foldA l [] List.nodup_nil).2.2
  simpa [dd] using this
theorem dd_sorted {l r : List Ky} (hp : r.Perm (dd l)) (hr : Rises r) : r = srt l := srt_of hr fun k => by rw [hp.mem_iff, dd_mem]
end Go.Proofs.YtldapckooohigaaDoor

/- Pairs as a map, in pure terms. -/
namespace Go.Proofs.YtldapckooohigaaDoor
set_option maxRecDepth 100000

/-- Two rising lists of the same pairs are one. -/
theorem risesP_ext : ∀ {a b : List Pr}, RisesP a → RisesP b → (∀ k, k ∈ a ↔ k ∈ b) → a = b
  | [], [], _, _, _ => rfl
  | [], y :: s, _, _, h => by have := (h y).2 (List.mem_cons_self ..); cases this
  | x :: r, [], _, _, h => by have := (h x).1 (List.mem_cons_self ..); cases this
  | x :: r, y :: s, ha, hb, h => by
    have ha' := List.pairwise_cons.1 ha
    have hb' := List.pairwise_cons.1 hb
    have exy : x = y := by
      rcases List.mem_cons.1 ((h x).1 (List.mem_cons_self ..)) with e | e
      · exact e
      · rcases List.mem_cons.1 ((h y).2 (List.mem_cons_self ..)) with e' | e'
        · exact e'.symm
        · exact absurd (ltK_trans (ha'.1 y e') (hb'.1 x e)) (ltK_irrefl _)
    subst exy
    congr 1
    refine risesP_ext ha'.2 hb'.2 fun k => ?_
    constructor
    · intro hk
      rcases List.mem_cons.1 ((h k).1 (List.mem_cons_of_mem _ hk)) with e | e
      · subst e; exact absurd (ha'.1 k hk) (ltK_irrefl _)
      · exact e
    · intro hk
      rcases List.mem_cons.1 ((h k).2 (List.mem_cons_of_mem _ hk)) with e | e
      · subst e; exact absurd (hb'.1 k hk) (ltK_irrefl _)
      · exact e
theorem snocInd {α : Type} {P : List α → Prop} (h0 : P []) (h1 : ∀ l x, P l → P (l ++ [x])) (l : List α) : P l := by
  rw [← List.reverse_reverse l]
  induction l.reverse with
  | nil => exact h0
  | cons x r ih => rw [List.reverse_cons]; exact h1 _ _ ih
/-- What a key has last. -/
def stp (k : Ky) (o : Option Int) (p : Pr) : Option Int := if p.1 = k then some p.2 else o
def valOf (l : List Pr) (k : Ky) : Option Int := l.foldl (stp k) none
theorem valOf_snoc (l : List Pr) (p : Pr) (k : Ky) : valOf (l ++ [p]) k = if p.1 = k then some p.2 else valOf l k := by
  unfold valOf
  rw [List.foldl_append]
  rfl
/-- A pair in a rising list: below, its own place, above. -/
def insQ (p : Pr) : List Pr → List Pr
  | [] => [p]
  | a :: r => if ltK a.1 p.1 then a :: insQ p r else if a.1 = p.1 then p :: r else p :: a :: r
theorem insQ_mem (p x : Pr) : ∀ l, RisesP l → (x ∈ insQ p l ↔ x = p ∨ (x ∈ l ∧ x.1 ≠ p.1))
  | [], _ => by simp [insQ]
  | a :: r, h => by
    have h' := List.pairwise_cons.1 h
    unfold insQ
    split
    · rename_i hl
      rw [List.mem_cons, insQ_mem p x r h'.2, List.mem_cons]
      have hna : a.1 ≠ p.1 := fun e => by rw [e] at hl; exact ltK_irrefl _ hl
      constructor
      · rintro (c | c | c)
        · exact .inr ⟨.inl c, by rw [c]; exact hna⟩
        · exact .inl c
        · exact .inr ⟨.inr c.1, c.2⟩
      · rintro (c | ⟨c | c, d⟩)
        · exact .inr (.inl c)
        · exact .inl c
        · exact .inr (.inr ⟨c, d⟩)
    · rename_i hl
      split
      · rename_i he
        rw [List.mem_cons, List.mem_cons]
        constructor
        · rintro (c | c)
          · exact .inl c
          · exact .inr ⟨.inr c, fun e => by have := h'.1 x c; rw [e, he] at this; exact ltK_irrefl _ this⟩
        · rintro (c | ⟨c | c, d⟩)
          · exact .inl c
          · rw [c] at d; exact absurd he d
          · exact .inr c
      · rename_i he
        have hpa : ltK p.1 a.1 := Decidable.byContradiction fun c => he (ltK_total hl c)
        rw [List.mem_cons, List.mem_cons]
        constructor
        · rintro (c | c | c)
          · exact .inl c
          · exact .inr ⟨.inl c, by rw [c]; exact he⟩
          · exact .inr ⟨.inr c, fun e => by have := ltK_trans hpa (h'.1 x c); rw [e] at this; exact ltK_irrefl _ this⟩
        · rintro (c | ⟨c | c, _⟩)
          · exact .inl c
          · exact .inr (.inl c)
          · exact .inr (.inr c)
theorem insQ_rises (p : Pr) : ∀ l, RisesP l → RisesP (insQ p l)
  | [], _ => List.pairwise_singleton _ _
  | a :: r, h => by
    have h' := List.pairwise_cons.1 h
    unfold insQ
    split
    · rename_i hl
      refine List.pairwise_cons.2 ⟨fun x hx => ?_, insQ_rises p r h'.2⟩
      rcases (insQ_mem p x r h'.2).1 hx with c | c
      · rw [c]; exact hl
      · exact h'.1 x c.1
    · rename_i hl
      split
      · rename_i he
        exact List.pairwise_cons.2 ⟨fun x hx => by rw [← he]; exact h'.1 x hx, h'.2⟩
      · rename_i he
        have hpa : ltK p.1 a.1 := Decidable.byContradiction fun c => he (ltK_total hl c)
        refine List.pairwise_cons.2 ⟨fun x hx => ?_, h⟩
        rcases List.mem_cons.1 hx with c | c
        · rw [c]; exact hpa
        · exact ltK_trans hpa (h'.1 x c)
theorem insQ_len (p : Pr) : ∀ l, (insQ p l).length ≤ l.length + 1
  | [] => by simp [insQ]
  | a :: r => by
    unfold insQ
    have := insQ_len p r
    (repeat' split) <;> simp only [List.length_cons] <;> omega
/-- By the place of the key. -/
def keysOf (l : List Pr) : List Ky := l.map (·.1)
theorem insQ_plc (p : Pr) : ∀ l : List Pr, insQ p l = l.take (plc p.1 (keysOf l)) ++ p :: l.drop (if (keysOf l)[plc p.1 (keysOf l)]? = some p.1 then plc p.1 (keysOf l) + 1 else plc p.1 (keysOf l))
  | [] => by simp [insQ, keysOf, plc]
  | a :: r => by
    unfold insQ
    by_cases hl : ltK a.1 p.1
    · have e : plc p.1 (keysOf (a :: r)) = plc p.1 (keysOf r) + 1 := by simp [keysOf, plc, hl]
      rw [if_pos hl, e, insQ_plc p r]
      have e2 : (keysOf (a :: r))[plc p.1 (keysOf r) + 1]? = (keysOf r)[plc p.1 (keysOf r)]? := by simp [keysOf]
      rw [e2]
      split <;> simp
    · have e : plc p.1 (keysOf (a :: r)) = 0 := by simp [keysOf, plc, hl]
      rw [if_neg hl, e]
      by_cases he : a.1 = p.1
      · simp [keysOf, he]
      · simp [keysOf, he]
/-- Pairs as a map, rising. -/
def srtP (l : List Pr) : List Pr := l.foldl (fun o p => insQ p o) []
theorem srtP_snoc (l : List Pr) (p : Pr) : srtP (l ++ [p]) = insQ p (srtP l) := by simp [srtP]
theorem srtP_spec (l : List Pr) : RisesP (srtP l) ∧ (∀ k u, (k, u) ∈ srtP l ↔ valOf l k = some u) ∧ (srtP l).length ≤ l.length := by
  refine snocInd (P := fun l => RisesP (srtP l) ∧ (∀ k u, (k, u) ∈ srtP l ↔ valOf l k = some u) ∧ (srtP l).length ≤ l.length) ?_ ?_ l
  · exact ⟨List.Pairwise.nil, fun k u => by simp [srtP, valOf], by simp [srtP]⟩
  · intro l p ih
    obtain ⟨h1, h2, h3⟩ := ih
    rw [srtP_snoc]
    refine ⟨insQ_rises p _ h1, fun k u => ?_, ?_⟩
    · rw [insQ_mem p (k, u) _ h1, valOf_snoc, h2]
      by_cases e : p.1 = k
      · rw [if_pos e]
        constructor
        · rintro (c | c)
          · rw [← c]
          · exact absurd e.symm c.2
        · intro c
          left
          obtain ⟨a, b⟩ := p
          simp only [Option.some.injEq] at c e
          rw [← c, ← e]
      · rw [if_neg e]
        constructor
        · rintro (c | c)
          · exact absurd (by rw [← c]) e
          · exact c.1
        · intro c
          exact .inr ⟨c, fun d => e d.symm⟩
    · have := insQ_len p (srtP l)
      simp only [List.length_append, List.length_cons, List.length_nil]
      omega
theorem srtP_of {l r : List Pr} (hr : RisesP r) (hm : ∀ k u, (k, u) ∈ r ↔ valOf l k = some u) : r = srtP l := risesP_ext hr (srtP_spec l).1 fun ⟨k, u⟩ => by rw [hm, (srtP_spec l).2.1]
/-- The program's way: by places. -/
def addP (D : List Pr) (p : Pr) : List Pr := if p.1 ∈ keysOf D then D.set ((keysOf D).idxOf p.1) p else D ++ [p]
def ddP (l : List Pr) : List Pr := l.foldl addP []
theorem ddP_snoc (l : List Pr) (p : Pr) : ddP (l ++ [p]) = addP (ddP l) p := by simp [ddP]
theorem addP_keys (D : List Pr) (p : Pr) : keysOf (addP D p) = addK (keysOf D) p.1 := by
  unfold addP addK
  split
  · rename_i h
    unfold keysOf at *
    rw [List.map_set]
    have hi := List.idxOf_lt_length_of_mem h
    have := List.getElem_idxOf hi
    refine List.ext_getElem? fun j => ?_
    by_cases hj : (List.map (fun x => x.1) D).idxOf p.1 = j
    · subst hj
      rw [List.getElem?_set_self hi, List.getElem?_eq_getElem hi, this]
    · rw [List.getElem?_set_ne hj]
  · simp [keysOf]
theorem addP_mem {D : List Pr} (hn : (keysOf D).Nodup) (p x : Pr) : x ∈ addP D p ↔ x = p ∨ (x ∈ D ∧ x.1 ≠ p.1) := by
  unfold addP
  split
  · rename_i h
    have hi := List.idxOf_lt_length_of_mem h
    have hik := List.getElem_idxOf hi
    have hiD : (keysOf D).idxOf p.1 < D.length := by simpa [keysOf] using hi
    have hkD : D[(keysOf D).idxOf p.1].1 = p.1 := by
      have h := hik
      simp only [keysOf, List.getElem_map] at h
      exact h
    generalize (keysOf D).idxOf p.1 = i at *
    have hnp := List.pairwise_iff_getElem.1 hn
    have uniq : ∀ j (hj : j < D.length), D[j].1 = p.1 → j = i := fun j hj he => by
      rcases Nat.lt_trichotomy j i with c | c | c
      · have := hnp j i (by simpa [keysOf] using hj) hi c
        simp only [keysOf, List.getElem_map] at this
        exact absurd (he.trans hkD.symm) this
      · exact c
      · have := hnp i j hi (by simpa [keysOf] using hj) c
        simp only [keysOf, List.getElem_map] at this
        exact absurd (hkD.trans he.symm) this
    constructor
    · intro hx
      obtain ⟨j, hj, rfl⟩ := List.getElem_of_mem hx
      rw [List.length_set] at hj
      rw [List.getElem_set]
      by_cases e : i = j
      · rw [if_pos e]; exact .inl rfl
      · rw [if_neg e]
        exact .inr ⟨List.getElem_mem _, fun c => e (uniq j hj c).symm⟩
    · rintro (c | ⟨c, d⟩)
      · rw [c]; exact List.mem_set hiD p
      · obtain ⟨j, hj, rfl⟩ := List.getElem_of_mem c
        have e : i ≠ j := fun e => d (by subst e; exact hkD)
        refine List.mem_of_getElem? (i := j) ?_
        rw [List.getElem?_set_ne e, List.getElem?_eq_getElem hj]
  · rename_i h
    rw [List.mem_append, List.mem_singleton]
    constructor
    · rintro (c | c)
      · exact .inr ⟨c, fun e => h (e ▸ List.mem_map.2 ⟨x, c, rfl⟩)⟩
      · exact .inl c
    · rintro (c | c)
      · exact .inr c
      · exact .inl c.1
theorem ddP_spec (l : List Pr) : (keysOf (ddP l)).Nodup ∧ (∀ k u, (k, u) ∈ ddP l ↔ valOf l k = some u) ∧ (ddP l).length ≤ l.length := by
  refine snocInd (P := fun l => (keysOf (ddP l)).Nodup ∧ (∀ k u, (k, u) ∈ ddP l ↔ valOf l k = some u) ∧ (ddP l).length ≤ l.length) ?_ ?_ l
  · exact ⟨List.nodup_nil, fun k u => by simp [ddP, valOf], by simp [ddP]⟩
  · intro l p ih
    obtain ⟨h1, h2, h3⟩ := ih
    rw [ddP_snoc]
    refine ⟨by rw [addP_keys]; exact addK_nodup h1 _, fun k u => ?_, ?_⟩
    · rw [addP_mem h1, valOf_snoc, h2]
      by_cases e : p.1 = k
      · rw [if_pos e]
        constructor
        · rintro (c | c)
          · rw [← c]
          · exact absurd e.symm c.2
        · intro c
          left
          obtain ⟨a, b⟩ := p
          simp only [Option.some.injEq] at c e
          rw [← c, ← e]
      · rw [if_neg e]
        constructor
        · rintro (c | c)
          · exact absurd (by rw [← c]) e
          · exact c.1
        · intro c
          exact .inr ⟨c, fun d => e d.symm⟩
    · unfold addP
      split
      · simp; omega
      · simp; omega
theorem ddP_sorted {l r : List Pr} (hp : r.Perm (ddP l)) (hr : RisesP r) : r = srtP l := srtP_of hr fun k u => by rw [hp.mem_iff, (ddP_spec l).2.1]
end Go.Proofs.YtldapckooohigaaDoor

/- Changes by keys, in pure terms. -/
namespace Go.Proofs.YtldapckooohigaaDoor
set_option maxRecDepth 100000

/-- A change: its key, its value, whether it erases. -/
abbrev Ch := Ky × (Int × Bool)
def RisesC (l : List Ch) : Prop := l.Pairwise fun a b => ltK a.1 b.1

/-- Two rising lists of the same pairs are one. -/
theorem risesC_ext : ∀ {a b : List Ch}, RisesC a → RisesC b → (∀ k, k ∈ a ↔ k ∈ b) → a = b
  | [], [], _, _, _ => rfl
  | [], y :: s, _, _, h => by have := (h y).2 (List.mem_cons_self ..); cases this
  | x :: r, [], _, _, h => by have := (h x).1 (List.mem_cons_self ..); cases this
  | x :: r, y :: s, ha, hb, h => by
    have ha' := List.pairwise_cons.1 ha
    have hb' := List.pairwise_cons.1 hb
    have exy : x = y := by
      rcases List.mem_cons.1 ((h x).1 (List.mem_cons_self ..)) with e | e
      · exact e
      · rcases List.mem_cons.1 ((h y).2 (List.mem_cons_self ..)) with e' | e'
        · exact e'.symm
        · exact absurd (ltK_trans (ha'.1 y e') (hb'.1 x e)) (ltK_irrefl _)
    subst exy
    congr 1
    refine risesC_ext ha'.2 hb'.2 fun k => ?_
    constructor
    · intro hk
      rcases List.mem_cons.1 ((h k).1 (List.mem_cons_of_mem _ hk)) with e | e
      · subst e; exact absurd (ha'.1 k hk) (ltK_irrefl _)
      · exact e
    · intro hk
      rcases List.mem_cons.1 ((h k).2 (List.mem_cons_of_mem _ hk)) with e | e
      · subst e; exact absurd (hb'.1 k hk) (ltK_irrefl _)
      · exact e
/-- What a key has last. -/
def stpC (k : Ky) (o : Option (Int × Bool)) (p : Ch) : Option (Int × Bool) := if p.1 = k then some p.2 else o
def valC (l : List Ch) (k : Ky) : Option (Int × Bool) := l.foldl (stpC k) none
theorem valC_snoc (l : List Ch) (p : Ch) (k : Ky) : valC (l ++ [p]) k = if p.1 = k then some p.2 else valC l k := by
  unfold valC
  rw [List.foldl_append]
  rfl
/-- A pair in a rising list: below, its own place, above. -/
def insD (p : Ch) : List Ch → List Ch
  | [] => [p]
  | a :: r => if ltK a.1 p.1 then a :: insD p r else if a.1 = p.1 then p :: r else p :: a :: r
theorem insD_mem (p x : Ch) : ∀ l, RisesC l → (x ∈ insD p l ↔ x = p ∨ (x ∈ l ∧ x.1 ≠ p.1))
  | [], _ => by simp [insD]
  | a :: r, h => by
    have h' := List.pairwise_cons.1 h
    unfold insD
    split
    · rename_i hl
      rw [List.mem_cons, insD_mem p x r h'.2, List.mem_cons]
      have hna : a.1 ≠ p.1 := fun e => by rw [e] at hl; exact ltK_irrefl _ hl
      constructor
      · rintro (c | c | c)
        · exact .inr ⟨.inl c, by rw [c]; exact hna⟩
        · exact .inl c
        · exact .inr ⟨.inr c.1, c.2⟩
      · rintro (c | ⟨c | c, d⟩)
        · exact .inr (.inl c)
        · exact .inl c
        · exact .inr (.inr ⟨c, d⟩)
    · rename_i hl
      split
      · rename_i he
        rw [List.mem_cons, List.mem_cons]
        constructor
        · rintro (c | c)
          · exact .inl c
          · exact .inr ⟨.inr c, fun e => by have := h'.1 x c; rw [e, he] at this; exact ltK_irrefl _ this⟩
        · rintro (c | ⟨c | c, d⟩)
          · exact .inl c
          · rw [c] at d; exact absurd he d
          · exact .inr c
      · rename_i he
        have hpa : ltK p.1 a.1 := Decidable.byContradiction fun c => he (ltK_total hl c)
        rw [List.mem_cons, List.mem_cons]
        constructor
        · rintro (c | c | c)
          · exact .inl c
          · exact .inr ⟨.inl c, by rw [c]; exact he⟩
          · exact .inr ⟨.inr c, fun e => by have := ltK_trans hpa (h'.1 x c); rw [e] at this; exact ltK_irrefl _ this⟩
        · rintro (c | ⟨c | c, _⟩)
          · exact .inl c
          · exact .inr (.inl c)
          · exact .inr (.inr c)
theorem insD_rises (p : Ch) : ∀ l, RisesC l → RisesC (insD p l)
  | [], _ => List.pairwise_singleton _ _
  | a :: r, h => by
    have h' := List.pairwise_cons.1 h
    unfold insD
    split
    · rename_i hl
      refine List.pairwise_cons.2 ⟨fun x hx => ?_, insD_rises p r h'.2⟩
      rcases (insD_mem p x r h'.2).1 hx with c | c
      · rw [c]; exact hl
      · exact h'.1 x c.1
    · rename_i hl
      split
      · rename_i he
        exact List.pairwise_cons.2 ⟨fun x hx => by rw [← he]; exact h'.1 x hx, h'.2⟩
      · rename_i he
        have hpa : ltK p.1 a.1 := Decidable.byContradiction fun c => he (ltK_total hl c)
        refine List.pairwise_cons.2 ⟨fun x hx => ?_, h⟩
        rcases List.mem_cons.1 hx with c | c
        · rw [c]; exact hpa
        · exact ltK_trans hpa (h'.1 x c)
theorem insD_len (p : Ch) : ∀ l, (insD p l).length ≤ l.length + 1
  | [] => by simp [insD]
  | a :: r => by
    unfold insD
    have := insD_len p r
    (repeat' split) <;> simp only [List.length_cons] <;> omega
/-- By the place of the key. -/
def keysD (l : List Ch) : List Ky := l.map (·.1)
theorem insD_plc (p : Ch) : ∀ l : List Ch, insD p l = l.take (plc p.1 (keysD l)) ++ p :: l.drop (if (keysD l)[plc p.1 (keysD l)]? = some p.1 then plc p.1 (keysD l) + 1 else plc p.1 (keysD l))
  | [] => by simp [insD, keysD, plc]
  | a :: r => by
    unfold insD
    by_cases hl : ltK a.1 p.1
    · have e : plc p.1 (keysD (a :: r)) = plc p.1 (keysD r) + 1 := by simp [keysD, plc, hl]
      rw [if_pos hl, e, insD_plc p r]
      have e2 : (keysD (a :: r))[plc p.1 (keysD r) + 1]? = (keysD r)[plc p.1 (keysD r)]? := by simp [keysD]
      rw [e2]
      split <;> simp
    · have e : plc p.1 (keysD (a :: r)) = 0 := by simp [keysD, plc, hl]
      rw [if_neg hl, e]
      by_cases he : a.1 = p.1
      · simp [keysD, he]
      · simp [keysD, he]
/-- Pairs as a map, rising. -/
def srtD (l : List Ch) : List Ch := l.foldl (fun o p => insD p o) []
theorem srtD_snoc (l : List Ch) (p : Ch) : srtD (l ++ [p]) = insD p (srtD l) := by simp [srtD]
theorem srtD_spec (l : List Ch) : RisesC (srtD l) ∧ (∀ k u, (k, u) ∈ srtD l ↔ valC l k = some u) ∧ (srtD l).length ≤ l.length := by
  refine snocInd (P := fun l => RisesC (srtD l) ∧ (∀ k u, (k, u) ∈ srtD l ↔ valC l k = some u) ∧ (srtD l).length ≤ l.length) ?_ ?_ l
  · exact ⟨List.Pairwise.nil, fun k u => by simp [srtD, valC], by simp [srtD]⟩
  · intro l p ih
    obtain ⟨h1, h2, h3⟩ := ih
    rw [srtD_snoc]
    refine ⟨insD_rises p _ h1, fun k u => ?_, ?_⟩
    · rw [insD_mem p (k, u) _ h1, valC_snoc, h2]
      by_cases e : p.1 = k
      · rw [if_pos e]
        constructor
        · rintro (c | c)
          · rw [← c]
          · exact absurd e.symm c.2
        · intro c
          left
          obtain ⟨a, b⟩ := p
          simp only [Option.some.injEq] at c e
          rw [← c, ← e]
      · rw [if_neg e]
        constructor
        · rintro (c | c)
          · exact absurd (by rw [← c]) e
          · exact c.1
        · intro c
          exact .inr ⟨c, fun d => e d.symm⟩
    · have := insD_len p (srtD l)
      simp only [List.length_append, List.length_cons, List.length_nil]
      omega
theorem srtD_of {l r : List Ch} (hr : RisesC r) (hm : ∀ k u, (k, u) ∈ r ↔ valC l k = some u) : r = srtD l := risesC_ext hr (srtD_spec l).1 fun ⟨k, u⟩ => by rw [hm, (srtD_spec l).2.1]
/-- The program's way: by places. -/
def addD (D : List Ch) (p : Ch) : List Ch := if p.1 ∈ keysD D then D.set ((keysD D).idxOf p.1) p else D ++ [p]
def ddD (l : List Ch) : List Ch := l.foldl addD []
theorem ddD_snoc (l : List Ch) (p : Ch) : ddD (l ++ [p]) = addD (ddD l) p := by simp [ddD]
theorem addD_keys (D : List Ch) (p : Ch) : keysD (addD D p) = addK (keysD D) p.1 := by
  unfold addD addK
  split
  · rename_i h
    unfold keysD at *
    rw [List.map_set]
    have hi := List.idxOf_lt_length_of_mem h
    have := List.getElem_idxOf hi
    refine List.ext_getElem? fun j => ?_
    by_cases hj : (List.map (fun x => x.1) D).idxOf p.1 = j
    · subst hj
      rw [List.getElem?_set_self hi, List.getElem?_eq_getElem hi, this]
    · rw [List.getElem?_set_ne hj]
  · simp [keysD]
theorem addD_mem {D : List Ch} (hn : (keysD D).Nodup) (p x : Ch) : x ∈ addD D p ↔ x = p ∨ (x ∈ D ∧ x.1 ≠ p.1) := by
  unfold addD
  split
  · rename_i h
    have hi := List.idxOf_lt_length_of_mem h
    have hik := List.getElem_idxOf hi
    have hiD : (keysD D).idxOf p.1 < D.length := by simpa [keysD] using hi
    have hkD : D[(keysD D).idxOf p.1].1 = p.1 := by
      have h := hik
      simp only [keysD, List.getElem_map] at h
      exact h
    generalize (keysD D).idxOf p.1 = i at *
    have hnp := List.pairwise_iff_getElem.1 hn
    have uniq : ∀ j (hj : j < D.length), D[j].1 = p.1 → j = i := fun j hj he => by
      rcases Nat.lt_trichotomy j i with c | c | c
      · have := hnp j i (by simpa [keysD] using hj) hi c
        simp only [keysD, List.getElem_map] at this
        exact absurd (he.trans hkD.symm) this
      · exact c
      · have := hnp i j hi (by simpa [keysD] using hj) c
        simp only [keysD, List.getElem_map] at this
        exact absurd (hkD.trans he.symm) this
    constructor
    · intro hx
      obtain ⟨j, hj, rfl⟩ := List.getElem_of_mem hx
      rw [List.length_set] at hj
      rw [List.getElem_set]
      by_cases e : i = j
      · rw [if_pos e]; exact .inl rfl
      · rw [if_neg e]
        exact .inr ⟨List.getElem_mem _, fun c => e (uniq j hj c).symm⟩
    · rintro (c | ⟨c, d⟩)
      · rw [c]; exact List.mem_set hiD p
      · obtain ⟨j, hj, rfl⟩ := List.getElem_of_mem c
        have e : i ≠ j := fun e => d (by subst e; exact hkD)
        refine List.mem_of_getElem? (i := j) ?_
        rw [List.getElem?_set_ne e, List.getElem?_eq_getElem hj]
  · rename_i h
    rw [List.mem_append, List.mem_singleton]
    constructor
    · rintro (c | c)
      · exact .inr ⟨c, fun e => h (e ▸ List.mem_map.2 ⟨x, c, rfl⟩)⟩
      · exact .inl c
    · rintro (c | c)
      · exact .inr c
      · exact .inl c.1
theorem ddD_spec (l : List Ch) : (keysD (ddD l)).Nodup ∧ (∀ k u, (k, u) ∈ ddD l ↔ valC l k = some u) ∧ (ddD l).length ≤ l.length := by
  refine snocInd (P := fun l => (keysD (ddD l)).Nodup ∧ (∀ k u, (k, u) ∈ ddD l ↔ valC l k = some u) ∧ (ddD l).length ≤ l.length) ?_ ?_ l
  · exact ⟨List.nodup_nil, fun k u => by simp [ddD, valC], by simp [ddD]⟩
  · intro l p ih
    obtain ⟨h1, h2, h3⟩ := ih
    rw [ddD_snoc]
    refine ⟨by rw [addD_keys]; exact addK_nodup h1 _, fun k u => ?_, ?_⟩
    · rw [addD_mem h1, valC_snoc, h2]
      by_cases e : p.1 = k
      · rw [if_pos e]
        constructor
        · rintro (c | c)
          · rw [← c]
          · exact absurd e.symm c.2
        · intro c
          left
          obtain ⟨a, b⟩ := p
          simp only [Option.some.injEq] at c e
          rw [← c, ← e]
      · rw [if_neg e]
        constructor
        · rintro (c | c)
          · exact absurd (by rw [← c]) e
          · exact c.1
        · intro c
          exact .inr ⟨c, fun d => e d.symm⟩
    · unfold addD
      split
      · simp; omega
      · simp; omega
theorem ddD_sorted {l r : List Ch} (hp : r.Perm (ddD l)) (hr : RisesC r) : r = srtD l := srtD_of hr fun k u => by rw [hp.mem_iff, (ddD_spec l).2.1]
end Go.Proofs.YtldapckooohigaaDoor

/- slices.SortFunc on changes of one's own. -/
namespace Go.Proofs.YtldapckooohigaaDoor
open Go.RowKit Go.Sort
set_option maxRecDepth 100000

def chC (c : Ch) : List Value := [.int .i32 c.1.1, .int .i64 c.1.2, .int .i64 c.2.1, .bool c.2.2]
theorem chC_len (c : Ch) : (chC c).length = 4 := rfl
theorem chC_one (c : Ch) : ∀ u ∈ chC c, u.oneCell' = true := by
  intro u hu
  simp only [chC, List.mem_cons, List.not_mem_nil, or_false] at hu
  rcases hu with rfl | rfl | rfl | rfl <;> rfl
def cmpD (x y : Ch) : Int := cmpK x.1 y.1
theorem cmpD_any (x y : Ch) (w : World) : Calls Tryd.prog 46 #[.agg #[.int .i32 x.1.1, .int .i64 x.1.2, .int .i64 x.2.1, .bool x.2.2], .agg #[.int .i32 y.1.1, .int .i64 y.1.2, .int .i64 y.2.1, .bool y.2.2]] w fun e w' => e = .returned (.int .i64 (cmpD x y)) ∧ Grew w w' := by
  obtain ⟨⟨x0, x1⟩, x2, x3⟩ := x
  obtain ⟨⟨y0, y1⟩, y2, y3⟩ := y
  unfold cmpD
  have hg : Grew w ((w.alloc (.cells #[.int .i32 x0, .int .i64 x1, .int .i64 x2, .bool x3] 40)).alloc (.cells #[.int .i32 y0, .int .i64 y1, .int .i64 y2, .bool y3] 40)) := grew_alloc (grew_alloc (grew_refl _) _) _
  have HG := hide hg
  have HC : Hid (∀ x, Calls Tryd.prog 47 #[.agg #[.int .i32 x0, .int .i64 x1], .agg #[.int .i32 y0, .int .i64 y1]] x fun e w' => e = .returned (.int .i64 (cmpK (x0, x1) (y0, y1))) ∧ Grew x w') := fun x => compare_any x0 x1 y0 y1 x
  obtain ⟨r, hr⟩ : ∃ r, cmpK (x0, x1) (y0, y1) = r := ⟨_, rfl⟩
  simp only at hr ⊢
  rw [hr] at HC ⊢
  clear hg hr
  go_enter Tryd.func46, Tryd.ntmps46
  go_wp2_with (go_at_call 47; refine (unhide HC _).mono ?_; rintro e w1 ⟨rfl, hg1⟩; have HG1 := hide hg1; clear hg1)
  go_ret
  exact ⟨rfl, grew_trans (unhide HG) (unhide HG1)⟩
theorem ltOf_cmpD (x y : Ch) : ltOf cmpD x y = decide (ltK x.1 y.1) := ltOf_cmpK x.1 y.1
theorem swoD : SWO (ltOf cmpD) where
  irrefl x := swoK.irrefl x.1
  trans x y z h1 h2 := swoK.trans x.1 y.1 z.1 h1 h2
  ntrans x y z h1 h2 := swoK.ntrans x.1 y.1 z.1 h1 h2
theorem cmpLaysD (blk off size : Nat) (w : World) : CmpLays Tryd.prog 46 #[] chC 4 cmpD blk off size w := fun _ _ _ _ x y => (cmpD_any x y _).mono fun _ _ ⟨he, q, os, hw⟩ => ⟨he, q, os, hw⟩
theorem enters46 : ∀ args w, (callFunc 46 args).run Tryd.prog w = .ok (.enter 46 args) w := enters_of Tryd.func46 (by kernel_rfl) rfl
theorem sortD_any {w : World} {base n : Nat} {v : Value} {D : List Ch} (h : w.ownsRow base 40 4 v n (D.flatMap chC)) (hd : (D.map (·.1)).Nodup) (hn : n < 4611686018427387904) (hbase : base ≤ w.heap.size) :
    Calls Tryd.prog 45 #[v, .func (.func 46) #[] #[]] w fun e w' => e = .returned (.tuple #[]) ∧ ∃ D', w'.ownsRow base 40 4 v n (D'.flatMap chC) ∧ RisesC D' ∧ D'.Perm D ∧ Below base w w' := by
  obtain ⟨hnl, _⟩ := own_sees chC_len (by decide) h
  rcases h.2 with ⟨rfl, h0⟩ | ⟨g, cap, cur, rfl, hb, hg, _⟩
  · subst h0
    obtain rfl : D = [] := List.length_eq_zero_iff.1 hnl.symm
    refine (AnyF.slices_SortFunc_none { Tryd.sortD with } none 0 (.func (.func 46) #[] #[]) w).mono fun e w' hh => ?_
    obtain ⟨rfl, rfl⟩ := hh
    exact ⟨rfl, [], h, List.Pairwise.nil, List.Perm.refl _, Below.refl _ _⟩
  · have hsz : D.toArray.size = n := by simpa using hnl.symm
    have hcon := AnyQ.slices_SortFunc Tryd.sortD 4 Tryd.isAgg40 Tryd.sizeOf40 chC chC_len chC_one cmpD swoD 46 #[] g 0 cap D.toArray w enters46 (cmpLaysD g 0 D.toArray.size w) (own_holds chC_len (by decide) h) (Array.getElem?_eq_some_iff.1 hg).1 (by rw [hsz]; exact hn)
    rw [hsz] at hcon
    refine hcon.mono fun e w' hh => ?_
    obtain ⟨rfl, ⟨D'⟩, m, os, ⟨hs1, _, hp⟩, hso, rfl⟩ := hh
    have hl : D'.length = D.length := by simpa using hs1
    have e1 : (Array.mk D').extract 0 n = Array.mk D' := by
      have : n = (Array.mk D').size := by simp [hl, hnl]
      rw [this]; exact Array.extract_size
    have e2 : D.toArray.extract 0 n = D.toArray := by rw [← hsz]; exact Array.extract_size
    rw [e1, e2] at hp
    simp only at hp
    obtain ⟨o1, o2, o3, o4⟩ := own_sorted (m := m) (os := os) chC_len (by decide) h hl
    refine ⟨rfl, D', o1, ?_, hp, ⟨o2.os, o2.tape, o2.output, o2.size, fun j hj => o3 j (by omega) (by omega)⟩⟩
    have hnd : (D'.map (·.1)).Nodup := (hp.map _).nodup_iff.2 hd
    refine List.pairwise_iff_getElem.2 fun i j hi hj hij => ?_
    have hx := hso i j (Nat.zero_le _) hij (by omega)
    have gi : (Array.mk D')[i]! = D'[i] := by simp [hi]
    have gj : (Array.mk D')[j]! = D'[j] := by simp [hj]
    rw [gi, gj, ltOf_cmpD, decide_eq_false_iff_not] at hx
    by_cases hlt : ltK D'[i].1 D'[j].1
    · exact hlt
    · have he := ltK_total hlt hx
      have := List.pairwise_iff_getElem.1 hnd i j (by simpa using hi) (by simpa using hj) hij
      simp only [List.getElem_map] at this
      exact absurd he this
end Go.Proofs.YtldapckooohigaaDoor
