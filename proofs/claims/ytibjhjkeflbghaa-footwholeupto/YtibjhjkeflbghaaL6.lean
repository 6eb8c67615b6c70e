/- Levels. -/
import Derived.Test.YtibjhjkeflbghaaL5
namespace Go.Proofs.Ytibjhjkeflbghaa
open Go.RowKit
set_option maxRecDepth 100000

/-- A transaction as it lies in memory: its four slices, and what its keys are. -/
structure Tx where
  s : Int
  r : Int
  cv : Value
  av : Value
  rv : Value
  wv : Value
  rs : List Ky
  ws : List Ky
instance : Inhabited Tx := ⟨⟨0, 0, .slice none 0 0, .slice none 0 0, .slice none 0 0, .slice none 0 0, [], []⟩⟩
def xC (x : Tx) : List Value := [.int .i64 x.s, .int .i64 x.r, x.cv, x.av, x.rv, x.wv]
theorem xC_len (x : Tx) : (xC x).length = 6 := rfl
def xV (x : Tx) : Value := .agg #[.int .i64 x.s, .int .i64 x.r, x.cv, x.av, x.rv, x.wv]
/-- What a transaction's keys are, seen. -/
structure SeesX (w : World) (x : Tx) : Prop where
  rs : SeesL kC 2 w x.rv x.rs
  ws : SeesL kC 2 w x.wv x.ws
  okr : ∀ k ∈ x.rs, OkK k
  okw : ∀ k ∈ x.ws, OkK k
  lr : x.rs.length ≤ 8796093021952
  lw : x.ws.length ≤ 8796093021952
  shc : ∃ a n c, x.cv = .slice a n c
  sha : ∃ a n c, x.av = .slice a n c
/-- So few keys that their locks can be made. -/
def Short (x : Tx) : Prop := x.rs.length + x.ws.length ≤ 4398046511104
theorem SeesX.below {w w' : World} {x : Tx} (h : SeesX w x) (hb : Below w.heap.size w w') : SeesX w' x := { h with rs := h.rs.below kC_len hb, ws := h.ws.below kC_len hb }
theorem SeesX.keep {w w' : World} {x : Tx} (h : SeesX w x) (hc : ∀ p v, w.cell? p = some v → w'.cell? p = some v) : SeesX w' x := { h with rs := h.rs.keep kC_len hc, ws := h.ws.keep kC_len hc }
def lkX (x : Tx) : List Lk := lks x.rs x.ws
theorem lkX_ok {w : World} {x : Tx} (h : SeesX w x) : ∀ y ∈ lkX x, OkK y.1 := fun y hy => by
  obtain ⟨k, hk, rfl⟩ := List.mem_map.1 hy
  rcases List.mem_append.1 ((srt_mem k _).1 hk) with c | c
  · exact h.okr k c
  · exact h.okw k c
theorem lkX_len {x : Tx} (h : Short x) : (lkX x).length ≤ 4398046511104 := Nat.le_trans (lks_len _ _) h
theorem lkX_any {x : Tx} {w : World} (h : SeesX w x) (hl : Short x) : Calls Try.prog 14 #[xV x] w fun e w' => ∃ v, e = .returned v ∧ w'.ownsRow w.heap.size 39 3 v (lkX x).length ((lkX x).flatMap lC) ∧ Below w.heap.size w w' :=
  locks_call h.rs h.ws h.okr h.okw hl
/-- Levels, one by one: what is kept by keys, and what came out. -/
def stepP (st : Lst × List Int) (x : Tx) : Lst × List Int := (raiseP st.1 (levelP st.1 (lkX x) + 1) (lkX x), st.2 ++ [levelP st.1 (lkX x)])
def runP (l : List Tx) : Lst × List Int := l.foldl stepP (fun _ => (0, 0), [])
def levelsP (l : List Tx) : List Int := (runP l).2
theorem runP_snoc (l : List Tx) (x : Tx) : runP (l ++ [x]) = stepP (runP l) x := by simp [runP]
theorem runP_len (l : List Tx) : (runP l).2.length = l.length := by
  have : ∀ (l : List Tx) st, (l.foldl stepP st).2.length = st.2.length + l.length := fun l => by
    induction l with
    | nil => simp
    | cons x r ih => intro st; rw [List.foldl_cons, ih]; simp [stepP]; omega
  simpa [runP] using this l (fun _ => (0, 0), [])
/-- All that is kept is at most so much. -/
def Lo (B : Int) (g : Lst) : Prop := ∀ k, 0 ≤ (g k).1 ∧ (g k).1 ≤ B ∧ 0 ≤ (g k).2 ∧ (g k).2 ≤ B
theorem levelP_le {B : Int} {g : Lst} (h : Lo B g) (hB : 0 ≤ B) (l : List Lk) : 0 ≤ levelP g l ∧ levelP g l ≤ B := by
  have : ∀ (l : List Lk) (a : Int), 0 ≤ a → a ≤ B → 0 ≤ l.foldl (fun lv x => max lv (if x.2 then (g x.1).2 else (g x.1).1)) a ∧ l.foldl (fun lv x => max lv (if x.2 then (g x.1).2 else (g x.1).1)) a ≤ B := fun l => by
    induction l with
    | nil => intro a h1 h2; exact ⟨h1, h2⟩
    | cons x r ih =>
      intro a h1 h2
      rw [List.foldl_cons]
      have := h x.1
      refine ih _ ?_ ?_ <;> split <;> omega
  exact this l 0 (by omega) hB
theorem raiseP_lo {B : Int} {lv : Int} (h0 : 0 ≤ lv) (hB : lv ≤ B) : ∀ (l : List Lk) (g : Lst), Lo B g → Lo B (raiseP g lv l) := fun l => by
  induction l with
  | nil => intro g h; exact h
  | cons x r ih =>
    intro g h
    refine ih _ fun k => ?_
    have e : raise1 g lv x k = if k = x.1 then (if x.2 then lv else (g k).1, max (g k).2 lv) else g k := rfl
    have := h k
    show 0 ≤ (raise1 g lv x k).1 ∧ (raise1 g lv x k).1 ≤ B ∧ 0 ≤ (raise1 g lv x k).2 ∧ (raise1 g lv x k).2 ≤ B
    rw [e]
    by_cases c : k = x.1
    · rw [if_pos c]
      simp only
      split <;> omega
    · rw [if_neg c]
      exact this
theorem runP_lo : ∀ (l : List Tx), Lo l.length (runP l).1 := fun l => by
  have : ∀ (m : Nat), m ≤ l.length → Lo m (runP (l.take m)).1 := fun m => by
    induction m with
    | zero => intro _ k; simp [runP]
    | succ m ih =>
      intro hm
      have h := ih (by omega)
      rw [List.take_succ_eq_append_getElem (by omega), runP_snoc]
      have hl := levelP_le h (by omega) (lkX l[m])
      refine raiseP_lo (by omega) (by omega) _ _ fun k => ?_
      have := h k
      omega
  simpa using this l.length (Nat.le_refl _)
end Go.Proofs.Ytibjhjkeflbghaa
