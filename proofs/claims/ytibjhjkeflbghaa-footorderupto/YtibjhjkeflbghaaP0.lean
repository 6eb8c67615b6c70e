/- Keys in order, each once, and pairs as a map, in pure terms. -/
import Derived.Test.YtibjhjkeflbghaaKB
namespace Go.Proofs.Ytibjhjkeflbghaa
set_option maxRecDepth 100000

/-! ### keys -/
/-- Two rising lists of the same keys are one. -/
theorem rises_ext : ∀ {a b : List Ky}, Rises a → Rises b → (∀ k, k ∈ a ↔ k ∈ b) → a = b
  | [], [], _, _, _ => rfl
  | [], y :: s, _, _, h => by have := (h y).2 (List.mem_cons_self ..); cases this
  | x :: r, [], _, _, h => by have := (h x).1 (List.mem_cons_self ..); cases this
  | x :: r, y :: s, ha, hb, h => by
    have ha' := List.pairwise_cons.1 ha
    have hb' := List.pairwise_cons.1 hb
    have exy : x = y := by
      rcases List.mem_cons.1 ((h x).1 (List.mem_cons_self ..)) with e | e
      · exact e
      · rcases List.mem_cons.1 ((h y).2 (List.mem_cons_self ..)) with e' | e'
        · exact e'.symm
        · exact absurd (ltK_trans (ha'.1 y e') (hb'.1 x e)) (ltK_irrefl _)
    subst exy
    congr 1
    refine rises_ext ha'.2 hb'.2 fun k => ?_
    constructor
    · intro hk
      rcases List.mem_cons.1 ((h k).1 (List.mem_cons_of_mem _ hk)) with e | e
      · subst e; exact absurd (ha'.1 k hk) (ltK_irrefl _)
      · exact e
    · intro hk
      rcases List.mem_cons.1 ((h k).2 (List.mem_cons_of_mem _ hk)) with e | e
      · subst e; exact absurd (hb'.1 k hk) (ltK_irrefl _)
      · exact e
/-- A key put where it belongs. -/
def insK (k : Ky) : List Ky → List Ky
  | [] => [k]
  | a :: r => if ltK a k then a :: insK k r else if a = k then a :: r else k :: a :: r
theorem insK_mem (k x : Ky) : ∀ l, x ∈ insK k l ↔ x = k ∨ x ∈ l
  | [] => by simp [insK]
  | a :: r => by
    unfold insK
    split
    · rw [List.mem_cons, insK_mem k x r, List.mem_cons]
      constructor
      · rintro (h | h | h)
        · exact .inr (.inl h)
        · exact .inl h
        · exact .inr (.inr h)
      · rintro (h | h | h)
        · exact .inr (.inl h)
        · exact .inl h
        · exact .inr (.inr h)
    · split
      · rename_i e
        subst e
        constructor
        · exact .inr
        · rintro (h | h)
          · rw [h]; exact List.mem_cons_self ..
          · exact h
      · rw [List.mem_cons]
theorem insK_rises (k : Ky) : ∀ l, Rises l → Rises (insK k l)
  | [], _ => List.pairwise_singleton _ _
  | a :: r, h => by
    have h' := List.pairwise_cons.1 h
    unfold insK
    split
    · rename_i hak
      refine List.pairwise_cons.2 ⟨fun x hx => ?_, insK_rises k r h'.2⟩
      rcases (insK_mem k x r).1 hx with e | e
      · rw [e]; exact hak
      · exact h'.1 x e
    · rename_i hak
      split
      · exact h
      · rename_i hne
        have hka : ltK k a := Decidable.byContradiction fun c => hne (ltK_total hak c)
        refine List.pairwise_cons.2 ⟨fun x hx => ?_, h⟩
        rcases List.mem_cons.1 hx with e | e
        · rw [e]; exact hka
        · exact ltK_trans hka (h'.1 x e)
theorem insK_len (k : Ky) : ∀ l, (insK k l).length ≤ l.length + 1
  | [] => by simp [insK]
  | a :: r => by
    unfold insK
    have := insK_len k r
    (repeat' split) <;> simp only [List.length_cons] <;> omega
/-- Where a key belongs. -/
def plc (k : Ky) : List Ky → Nat
  | [] => 0
  | a :: r => if ltK a k then plc k r + 1 else 0
theorem plc_le (k : Ky) : ∀ l, plc k l ≤ l.length
  | [] => Nat.le_refl _
  | a :: r => by unfold plc; have := plc_le k r; split <;> simp; omega
theorem plc_below (k : Ky) : ∀ (l : List Ky) (i : Nat) x, i < plc k l → l[i]? = some x → ltK x k
  | [], i, x, h, _ => by simp [plc] at h
  | a :: r, i, x, h, hx => by
    unfold plc at h
    split at h
    · rename_i hl
      cases i with
      | zero => obtain rfl : a = x := by simpa using hx
                exact hl
      | succ i => exact plc_below k r i x (by omega) (by simpa using hx)
    · omega
theorem plc_at (k : Ky) : ∀ (l : List Ky) x, l[plc k l]? = some x → ¬ ltK x k
  | [], x, h => by simp at h
  | a :: r, x, h => by
    by_cases hl : ltK a k
    · have e : plc k (a :: r) = plc k r + 1 := by simp [plc, hl]
      rw [e] at h
      exact plc_at k r x (by simpa using h)
    · have e : plc k (a :: r) = 0 := by simp [plc, hl]
      rw [e] at h
      obtain rfl : a = x := by simpa using h
      exact hl
theorem plc_unique {k : Ky} {l : List Ky} {m : Nat} (hm : m ≤ l.length) (hb : ∀ i x, i < m → l[i]? = some x → ltK x k) (ha : ∀ x, l[m]? = some x → ¬ ltK x k) : m = plc k l := by
  have h1 := plc_le k l
  rcases Nat.lt_trichotomy m (plc k l) with c | c | c
  · have hx : l[m]? = some (l[m]'(by omega)) := List.getElem?_eq_getElem _
    exact absurd (plc_below k l m _ c hx) (ha _ hx)
  · exact c
  · have hx : l[plc k l]? = some (l[plc k l]'(by omega)) := List.getElem?_eq_getElem _
    exact absurd (hb _ _ c hx) (plc_at k l _ hx)
theorem insK_plc (k : Ky) : ∀ l, insK k l = if l[plc k l]? = some k then l else l.take (plc k l) ++ k :: l.drop (plc k l)
  | [] => by simp [insK, plc]
  | a :: r => by
    unfold insK
    by_cases hl : ltK a k
    · have e : plc k (a :: r) = plc k r + 1 := by simp [plc, hl]
      rw [if_pos hl, e, insK_plc k r]
      simp only [List.getElem?_cons_succ]
      split <;> simp
    · have e : plc k (a :: r) = 0 := by simp [plc, hl]
      rw [if_neg hl, e]
      simp
/-- The keys of a list, rising, each once. -/
def srt (l : List Ky) : List Ky := l.foldl (fun o k => insK k o) []
theorem srt_snoc (l : List Ky) (k : Ky) : srt (l ++ [k]) = insK k (srt l) := by simp [srt]
theorem foldI_mem (x : Ky) : ∀ (l o : List Ky), x ∈ l.foldl (fun o k => insK k o) o ↔ x ∈ l ∨ x ∈ o
  | [], o => by simp
  | k :: r, o => by
    rw [List.foldl_cons, foldI_mem x r, insK_mem, List.mem_cons]
    constructor
    · rintro (h | h | h)
      · exact .inl (.inr h)
      · exact .inl (.inl h)
      · exact .inr h
    · rintro ((h | h) | h)
      · exact .inr (.inl h)
      · exact .inl h
      · exact .inr (.inr h)
theorem srt_mem (x : Ky) (l : List Ky) : x ∈ srt l ↔ x ∈ l := by
  unfold srt
  rw [foldI_mem]
  simp
theorem foldI_rises : ∀ (l o : List Ky), Rises o → Rises (l.foldl (fun o k => insK k o) o)
  | [], _, h => h
  | k :: r, o, h => foldI_rises r _ (insK_rises k o h)
theorem srt_rises (l : List Ky) : Rises (srt l) := foldI_rises l [] List.Pairwise.nil
theorem foldI_len : ∀ (l o : List Ky), (l.foldl (fun o k => insK k o) o).length ≤ o.length + l.length
  | [], o => by simp
  | k :: r, o => by
    rw [List.foldl_cons, List.length_cons]
    have := foldI_len r (insK k o)
    have := insK_len k o
    omega
theorem srt_len (l : List Ky) : (srt l).length ≤ l.length := by
  have := foldI_len l []
  simpa [srt] using this
theorem srt_of {l r : List Ky} (hr : Rises r) (hm : ∀ k, k ∈ r ↔ k ∈ l) : r = srt l := rises_ext hr (srt_rises l) fun k => by rw [hm, srt_mem]

/-- The program's way: each once, in the order in which they came. -/
def addK (D : List Ky) (k : Ky) : List Ky := if k ∈ D then D else D ++ [k]
def dd (l : List Ky) : List Ky := l.foldl addK []
theorem dd_snoc (l : List Ky) (k : Ky) : dd (l ++ [k]) = addK (dd l) k := by simp [dd]
theorem addK_mem (D : List Ky) (k x : Ky) : x ∈ addK D k ↔ x ∈ D ∨ x = k := by
  unfold addK
  split
  · rename_i h
    constructor
    · exact .inl
    · rintro (c | c)
      · exact c
      · rw [c]; exact h
  · simp
theorem addK_nodup {D : List Ky} (h : D.Nodup) (k : Ky) : (addK D k).Nodup := by
  unfold addK
  split
  · exact h
  · rename_i hk
    refine List.nodup_append.2 ⟨h, by simp, fun a ha b hb => ?_⟩
    rw [List.mem_singleton] at hb
    subst hb
    exact fun e => hk (e ▸ ha)
theorem addK_len (D : List Ky) (k : Ky) : (addK D k).length ≤ D.length + 1 := by
  unfold addK
  split <;> simp
theorem foldA : ∀ (l D : List Ky), D.Nodup → (l.foldl addK D).Nodup ∧ (∀ x, x ∈ l.foldl addK D ↔ x ∈ D ∨ x ∈ l) ∧ (l.foldl addK D).length ≤ D.length + l.length
  | [], D, h => ⟨h, by simp, by simp⟩
  | k :: r, D, h => by
    obtain ⟨h1, h2, h3⟩ := foldA r (addK D k) (addK_nodup h k)
    rw [List.foldl_cons]
    refine ⟨h1, fun x => ?_, ?_⟩
    · rw [h2, addK_mem, List.mem_cons]
      constructor
      · rintro ((c | c) | c)
        · exact .inl c
        · exact .inr (.inl c)
        · exact .inr (.inr c)
      · rintro (c | c | c)
        · exact .inl (.inl c)
        · exact .inl (.inr c)
        · exact .inr c
    · have := addK_len D k
      rw [List.length_cons]
      omega
theorem dd_nodup (l : List Ky) : (dd l).Nodup := (foldA l [] List.nodup_nil).1
theorem dd_mem (l : List Ky) (x : Ky) : x ∈ dd l ↔ x ∈ l := by
  have := (foldA l [] List.nodup_nil).2.1 x
  simpa [dd] using this
theorem dd_len (l : List Ky) : (dd l).length ≤ l.length := by
  have := (foldA l [] List.nodup_nil).2.2
  simpa [dd] using this
theorem dd_sorted {l r : List Ky} (hp : r.Perm (dd l)) (hr : Rises r) : r = srt l := srt_of hr fun k => by rw [hp.mem_iff, dd_mem]
end Go.Proofs.Ytibjhjkeflbghaa
