/- A range over a function whose rounds may be left early. -/
import Derived.RangeFuncNested
import Derived.RangeFuncFrom
import Derived.RangeFuncBound
import Derived.RangeFuncCalls
import Derived.RangeFuncLeaves
import Derived.WalkKit
namespace Go.Proofs.Yteenbebpdibbcaa
open Go.RowKit
set_option maxRecDepth 100000

/-- The iterator's word: what it hands out is let by Ok; it goes through S, or was left behind a beginning. -/
def SeqOk {α : Type} (F : Fence) (n : Nat) (P : Program) (g : Nat) (lb : Array Value) (encs : α → Array Value) (Ok : List α → α → Prop) (Kp : World → World → Prop) (S : List α → Prop) (w : World) : Prop :=
  ∀ (l : Nat) (J Jx : List α → World → Prop) (W : World), Below w.heap.size w W → OwnFrom W.heap.size J →
    (∀ pre x W1, J pre W1 → Ok pre x → YieldAt F (n - 1) P l (encs x) W1 fun e W' => (e = .returned (.bool true) ∧ J (pre ++ [x]) W' ∧ Kp W1 W') ∨ (e = .returned (.bool false) ∧ Jx (pre ++ [x]) W')) →
    J [] W → CallsIn F n P g (#[.func (.yield l) #[] #[]] ++ lb) W fun e W' => (∃ v, e = .returned v) ∧ ((∃ xs, S xs ∧ J xs W') ∨ ∃ pre, Jx pre W')

/-- How a round may end: at its end, or by a jump out of the loop. -/
def Ends (B : Nat) (Kp : World → World → Prop) (I : World → Prop) (Ix : Code → World → Prop) (W : World) : Exit → Act → World → Prop
  | .normal, _, W' => KeepsFrom B W W' ∧ Kp W W' ∧ I W'
  | .ret, _, W' => KeepsFrom B W W' ∧ Ix .ret W'
  | .exit id, _, W' => KeepsFrom B W W' ∧ Ix (.exit id) W'
  | _, _, _ => False

section
variable {α : Type} {F : Fence} {n : Nat} {P : Program} {g : Operand} {ps : Array Tmp} {assign body : Code} {Q : Exit → Act → World → Prop} {a : Act} {w : World}

/-- The loop's record. -/
def recd (fn : FuncId) (a : Act) (ps : Array Tmp) (assign body : Code) (D : Nat) (st : LoopState) (pe : Option Code) : Loop := { state := st, pending := pe, fn := fn, tmps := a.tmps, params := ps, assign := assign, body := body, defers := D }

theorem wpIn_range_ok (hro : F.round = none) (h1 : 1 ≤ n) {gf : Nat} {lb : Array Value} (hg : a.eval g = .func (.func gf) #[] lb) (hFg : F.fn gf) (eg : ∀ args w, (callFunc gf args).run P w = .ok (.enter gf args) w)
    {encs : α → Array Value} {Ok : List α → α → Prop} {Kp : World → World → Prop} {S : List α → Prop} {w0 : World} (hseq : SeqOk F (n - 1) P gf lb encs Ok Kp S w0)
    (hKt : ∀ {A B C : World}, Kp A B → Kp B C → Kp A C) (hKb : ∀ (W : World) (o o' : Obj), W.heap[w.heap.size + 1]? = some o → o.isCells = false → Kp W (W.putObj (w.heap.size + 1) o'))
    (hb0 : Below w0.heap.size w0 w) (hps : ∀ x, (encs x).size = ps.size)
    (I : List α → World → Prop) (Ix : Code → List α → World → Prop) (hI : OwnFrom w.heap.size I) (hIx : ∀ c, OwnFrom w.heap.size (Ix c)) (h0 : I [] w) (a₁ : α → Act)
    (hassign : ∀ (l : Nat) (x : α) (W : World) (K : Act → World → Prop), K (a₁ x) W → assign.wpIn (F.inRound l) (n - 1 - 1) P (Exit.then K (fun _ _ _ => False)) { tmps := (ps.zip (encs x)).foldl (fun t (p, v) => t.setIfInBounds p v) a.tmps, defers := [] } W)
    (hbody : ∀ (l : Nat) (pre : List α) (x : α) (W : World), I pre W → Ok pre x → body.wpIn (F.inRound l) (n - 1 - 1) P (Ends w.heap.size Kp (I (pre ++ [x])) (fun c => Ix c (pre ++ [x])) W) (a₁ x) W)
    (hdone : ∀ (D : Nat) (xs : List α) (W : World), w.heap.size ≤ D → S xs → I xs W → W.heap[D]? = some (.deferred (some [])) → Q .normal { a with defers := { target := .collected D, args := #[] } :: a.defers } W)
    (hstop : ∀ (D : Nat) (c : Code) (pre : List α) (W : World), w.heap.size ≤ D → Ix c pre W → W.heap[D]? = some (.deferred (some [])) → c.wpIn F n P Q { a with defers := { target := .collected D, args := #[] } :: a.defers } W) :
    (Code.rangeFunc g ps assign body).wpIn F n P Q a w := by
  refine wpIn_rangeFunc fun fn hfn => ?_
  have hne : w.heap.size ≠ w.heap.size + 1 := by omega
  have pI : ∀ s A l o o', w.heap.size ≤ l → I s A → A.heap[l]? = some o → o.isCells = false → I s (A.putObj l o') := fun s A l o o' hle hs ho hc => hI.putObj o' hs hle ho hc
  have pX : ∀ c s A l o o', w.heap.size ≤ l → Ix c s A → A.heap[l]? = some o → o.isCells = false → Ix c s (A.putObj l o') := fun c s A l o o' hle hs ho hc => (hIx c).putObj o' hs hle ho hc
  obtain ⟨W1, hW1⟩ : ∃ W1, (w.alloc (.deferred (some []))).alloc (.loop (recd fn a ps assign body w.heap.size .ready none)) = W1 := ⟨_, rfl⟩
  have hl1 : W1.heap[w.heap.size + 1]? = some (.loop (recd fn a ps assign body w.heap.size .ready none)) := by
    rw [← hW1]; have := World.alloc_heap_new (w.alloc (.deferred (some []))) (.loop (recd fn a ps assign body w.heap.size .ready none)); rwa [World.size_alloc] at this
  have hd1 : W1.heap[w.heap.size]? = some (.deferred (some [])) := by rw [← hW1]; exact (Below.heap_alloc _ _ _ (by simp)).trans (World.alloc_heap_new w _)
  have hb1 : Below w.heap.size w W1 := by rw [← hW1]; exact ((Below.refl _ w).alloc (Nat.le_refl _) _).alloc (by simp) _
  have hi1 : I [] W1 := by rw [← hW1]; exact hI.alloc _ (hI.alloc _ h0)
  have hs1 : W1.heap.size = w.heap.size + 2 := by rw [← hW1]; simp
  refine ⟨w.heap.size + 1, [{ target := .collected w.heap.size, args := #[] }], W1, { target := .fn (.func gf) lb, args := #[.func (.yield (w.heap.size + 1)) #[] #[]] }, W1, gf, #[.func (.yield (w.heap.size + 1)) #[] #[]] ++ lb, W1, ?_, ?_, ?_, ?_, fun _ => h1, ?_⟩
  · rw [← hW1, hro]; exact run_enterLoop_outer _ _ _ _ _
  · simp only [resolve, hg]; simp [go_sem]
  · intro f' hf'; simp [Target.leads] at hf'; subst hf'; exact hFg
  · simp [invoke, go_sem, eg]
  have hJ : OwnFrom W1.heap.size (fun pre W => I pre W ∧ W.heap[w.heap.size + 1]? = some (.loop (recd fn a ps assign body w.heap.size .ready none)) ∧ W.heap[w.heap.size]? = some (.deferred (some []))) := fun s A B row hs hg' hr => by
    refine ⟨hI s A B row hs.1 hg' (fun r e => by obtain ⟨q1, o, q2, q3⟩ := hr r e; exact ⟨by omega, o, q2, q3⟩), ?_, ?_⟩
    · refine (hg'.block (w.heap.size + 1) (Array.getElem?_eq_some_iff.1 hs.2.1).1 (fun e => ?_)).trans hs.2.1
      have := (hr _ e.symm).1; omega
    · refine (hg'.block w.heap.size (Array.getElem?_eq_some_iff.1 hs.2.2).1 (fun e => ?_)).trans hs.2.2
      have := (hr _ e.symm).1; omega
  refine (hseq (w.heap.size + 1) _ (fun pre W => ∃ c, Ix c pre W ∧ W.heap[w.heap.size + 1]? = some (.loop (recd fn a ps assign body w.heap.size .done (some c))) ∧ W.heap[w.heap.size]? = some (.deferred (some []))) W1 (hb0.trans (hb1.mono hb0.size)) hJ (fun pre x W hj hx => ?_) ⟨hi1, hl1, hd1⟩).mono ?_
  · obtain ⟨hi, hl, hd⟩ := hj
    have hL : w.heap.size + 1 < W.heap.size := (Array.getElem?_eq_some_iff.1 hl).1
    refine ⟨_, _, _, _, run_yield hl (hps x), roundIn_of_wpIn hfn (hassign _ x W _ ⟨_, run_beginRound hl rfl, ?_⟩)⟩
    have b1 : (W.putObj (w.heap.size + 1) (.loop (recd fn a ps assign body w.heap.size .busy none))).heap[w.heap.size + 1]? = some (.loop (recd fn a ps assign body w.heap.size .busy none)) := World.putObj_heap_same hL
    have b2 : (W.putObj (w.heap.size + 1) (.loop (recd fn a ps assign body w.heap.size .busy none))).heap[w.heap.size]? = some (.deferred (some [])) := (World.putObj_heap_other hne).trans hd
    refine wpIn_mono (hbody _ pre x (W.putObj (w.heap.size + 1) (.loop (recd fn a ps assign body w.heap.size .busy none))) (pI _ _ _ _ _ (by omega) hi hl rfl) hx) fun e a3 W3 hp => ?_
    have fin : ∀ (j : Option Code), KeepsFrom w.heap.size (W.putObj (w.heap.size + 1) (.loop (recd fn a ps assign body w.heap.size .busy none))) W3 →
        W3.heap[w.heap.size + 1]? = some (.loop (recd fn a ps assign body w.heap.size .busy none)) ∧ W3.heap[w.heap.size]? = some (.deferred (some [])) := fun j k3 => ⟨k3.same _ _ (by omega) b1 rfl, k3.same _ _ (Nat.le_refl _) b2 rfl⟩
    cases e with
    | normal =>
      obtain ⟨k3, p3, i3⟩ := hp
      obtain ⟨l3, d3⟩ := fin none k3
      exact ⟨_, _, run_endRound none l3, .inl ⟨rfl, ⟨pI _ _ _ _ _ (by omega) i3 l3 rfl, World.putObj_heap_same (Array.getElem?_eq_some_iff.1 l3).1, (World.putObj_heap_other hne).trans d3⟩, hKt (hKt (hKb _ _ _ hl rfl) p3) (hKb _ _ _ l3 rfl)⟩⟩
    | ret =>
      obtain ⟨k3, i3⟩ := hp
      obtain ⟨l3, d3⟩ := fin (some .ret) k3
      exact ⟨_, _, run_endRound (some .ret) l3, .inr ⟨rfl, .ret, pX _ _ _ _ _ _ (by omega) i3 l3 rfl, World.putObj_heap_same (Array.getElem?_eq_some_iff.1 l3).1, (World.putObj_heap_other hne).trans d3⟩⟩
    | exit id =>
      obtain ⟨k3, i3⟩ := hp
      obtain ⟨l3, d3⟩ := fin (some (.exit id)) k3
      exact ⟨_, _, run_endRound (some (.exit id)) l3, .inr ⟨rfl, .exit id, pX _ _ _ _ _ _ (by omega) i3 l3 rfl, World.putObj_heap_same (Array.getElem?_eq_some_iff.1 l3).1, (World.putObj_heap_other hne).trans d3⟩⟩
    | _ => exact hp.elim
  · rintro e W2 ⟨⟨v, rfl⟩, (⟨xs, hS, hi, hl, hd⟩ | ⟨pre, c, hi, hl, hd⟩)⟩
    · exact ⟨none, _, run_endLoop hl (by simp [recd]), hdone _ xs _ (Nat.le_refl _) hS (pI _ _ _ _ _ (by omega) hi hl rfl) ((World.putObj_heap_other hne).trans hd)⟩
    · exact ⟨some c, _, run_endLoop hl (by simp [recd]), hstop _ c pre _ (Nat.le_refl _) (pX _ _ _ _ _ _ (by omega) hi hl rfl) ((World.putObj_heap_other hne).trans hd)⟩
end
section
variable {α : Type} {F : Fence} {n : Nat} {P : Program} {g : Operand} {ps : Array Tmp} {assign body : Code} {Q : Exit → Act → World → Prop} {a : Act} {w : World}
theorem wpIn_range_as (hro : F.round = none) (h1 : 1 ≤ n) {gf : Nat} {lb : Array Value} (hg : a.eval g = .func (.func gf) #[] lb) (hFg : F.fn gf) (eg : ∀ args w, (callFunc gf args).run P w = .ok (.enter gf args) w)
    {encs : α → Array Value} {Ok : List α → α → Prop} {Kp : World → World → Prop} {S : List α → Prop} {w0 : World} (hseq : SeqOk F (n - 1) P gf lb encs Ok Kp S w0)
    (hKt : ∀ {A B C : World}, Kp A B → Kp B C → Kp A C) (hKb : ∀ (W : World) (o o' : Obj), W.heap[w.heap.size + 1]? = some o → o.isCells = false → Kp W (W.putObj (w.heap.size + 1) o'))
    (hb0 : Below w0.heap.size w0 w) (hps : ∀ x, (encs x).size = ps.size)
    (I : List α → World → Prop) (Ix : Code → List α → World → Prop) (hI : OwnFrom w.heap.size I) (hIx : ∀ c, OwnFrom w.heap.size (Ix c)) (h0 : I [] w) (as : α → World → World) (a₁ : α → Nat → Act) (I' : α → Nat → List α → World → Prop) (hI' : ∀ x q, OwnFrom w.heap.size (I' x q))
    (has : ∀ x W, Below W.heap.size W (as x W)) (hKa : ∀ x W, w.heap.size ≤ W.heap.size → Kp W (as x W)) (hA : ∀ pre x W, I pre W → Ok pre x → w.heap.size ≤ W.heap.size → I' x W.heap.size pre (as x W))
    (hassign : ∀ (l : Nat) (x : α) (W : World) (K : Act → World → Prop), K (a₁ x W.heap.size) (as x W) → assign.wpIn (F.inRound l) (n - 1 - 1) P (Exit.then K (fun _ _ _ => False)) { tmps := (ps.zip (encs x)).foldl (fun t (p, v) => t.setIfInBounds p v) a.tmps, defers := [] } W)
    (hbody : ∀ (l : Nat) (pre : List α) (x : α) (q : Nat) (W : World), I' x q pre W → Ok pre x → body.wpIn (F.inRound l) (n - 1 - 1) P (Ends w.heap.size Kp (I (pre ++ [x])) (fun c => Ix c (pre ++ [x])) W) (a₁ x q) W)
    (hdone : ∀ (D : Nat) (xs : List α) (W : World), w.heap.size ≤ D → S xs → I xs W → W.heap[D]? = some (.deferred (some [])) → Q .normal { a with defers := { target := .collected D, args := #[] } :: a.defers } W)
    (hstop : ∀ (D : Nat) (c : Code) (pre : List α) (W : World), w.heap.size ≤ D → Ix c pre W → W.heap[D]? = some (.deferred (some [])) → c.wpIn F n P Q { a with defers := { target := .collected D, args := #[] } :: a.defers } W) :
    (Code.rangeFunc g ps assign body).wpIn F n P Q a w := by
  refine wpIn_rangeFunc fun fn hfn => ?_
  have hne : w.heap.size ≠ w.heap.size + 1 := by omega
  have pI : ∀ s A l o o', w.heap.size ≤ l → I s A → A.heap[l]? = some o → o.isCells = false → I s (A.putObj l o') := fun s A l o o' hle hs ho hc => hI.putObj o' hs hle ho hc
  have pX : ∀ c s A l o o', w.heap.size ≤ l → Ix c s A → A.heap[l]? = some o → o.isCells = false → Ix c s (A.putObj l o') := fun c s A l o o' hle hs ho hc => (hIx c).putObj o' hs hle ho hc
  obtain ⟨W1, hW1⟩ : ∃ W1, (w.alloc (.deferred (some []))).alloc (.loop (recd fn a ps assign body w.heap.size .ready none)) = W1 := ⟨_, rfl⟩
  have hl1 : W1.heap[w.heap.size + 1]? = some (.loop (recd fn a ps assign body w.heap.size .ready none)) := by
    rw [← hW1]; have := World.alloc_heap_new (w.alloc (.deferred (some []))) (.loop (recd fn a ps assign body w.heap.size .ready none)); rwa [World.size_alloc] at this
  have hd1 : W1.heap[w.heap.size]? = some (.deferred (some [])) := by rw [← hW1]; exact (Below.heap_alloc _ _ _ (by simp)).trans (World.alloc_heap_new w _)
  have hb1 : Below w.heap.size w W1 := by rw [← hW1]; exact ((Below.refl _ w).alloc (Nat.le_refl _) _).alloc (by simp) _
  have hi1 : I [] W1 := by rw [← hW1]; exact hI.alloc _ (hI.alloc _ h0)
  have hs1 : W1.heap.size = w.heap.size + 2 := by rw [← hW1]; simp
  refine ⟨w.heap.size + 1, [{ target := .collected w.heap.size, args := #[] }], W1, { target := .fn (.func gf) lb, args := #[.func (.yield (w.heap.size + 1)) #[] #[]] }, W1, gf, #[.func (.yield (w.heap.size + 1)) #[] #[]] ++ lb, W1, ?_, ?_, ?_, ?_, fun _ => h1, ?_⟩
  · rw [← hW1, hro]; exact run_enterLoop_outer _ _ _ _ _
  · simp only [resolve, hg]; simp [go_sem]
  · intro f' hf'; simp [Target.leads] at hf'; subst hf'; exact hFg
  · simp [invoke, go_sem, eg]
  have hJ : OwnFrom W1.heap.size (fun pre W => I pre W ∧ W.heap[w.heap.size + 1]? = some (.loop (recd fn a ps assign body w.heap.size .ready none)) ∧ W.heap[w.heap.size]? = some (.deferred (some []))) := fun s A B row hs hg' hr => by
    refine ⟨hI s A B row hs.1 hg' (fun r e => by obtain ⟨q1, o, q2, q3⟩ := hr r e; exact ⟨by omega, o, q2, q3⟩), ?_, ?_⟩
    · refine (hg'.block (w.heap.size + 1) (Array.getElem?_eq_some_iff.1 hs.2.1).1 (fun e => ?_)).trans hs.2.1
      have := (hr _ e.symm).1; omega
    · refine (hg'.block w.heap.size (Array.getElem?_eq_some_iff.1 hs.2.2).1 (fun e => ?_)).trans hs.2.2
      have := (hr _ e.symm).1; omega
  refine (hseq (w.heap.size + 1) _ (fun pre W => ∃ c, Ix c pre W ∧ W.heap[w.heap.size + 1]? = some (.loop (recd fn a ps assign body w.heap.size .done (some c))) ∧ W.heap[w.heap.size]? = some (.deferred (some []))) W1 (hb0.trans (hb1.mono hb0.size)) hJ (fun pre x W hj hx => ?_) ⟨hi1, hl1, hd1⟩).mono ?_
  · obtain ⟨hi, hl, hd⟩ := hj
    have hL : w.heap.size + 1 < W.heap.size := (Array.getElem?_eq_some_iff.1 hl).1
    have la := ((has x W).block _ hL).trans hl
    have da := ((has x W).block w.heap.size (by omega)).trans hd
    have hLa : w.heap.size + 1 < (as x W).heap.size := (Array.getElem?_eq_some_iff.1 la).1
    refine ⟨_, _, _, _, run_yield hl (hps x), roundIn_of_wpIn hfn (hassign _ x W _ ⟨_, run_beginRound la rfl, ?_⟩)⟩
    have b1 : ((as x W).putObj (w.heap.size + 1) (.loop (recd fn a ps assign body w.heap.size .busy none))).heap[w.heap.size + 1]? = some (.loop (recd fn a ps assign body w.heap.size .busy none)) := World.putObj_heap_same hLa
    have b2 : ((as x W).putObj (w.heap.size + 1) (.loop (recd fn a ps assign body w.heap.size .busy none))).heap[w.heap.size]? = some (.deferred (some [])) := (World.putObj_heap_other hne).trans da
    refine wpIn_mono (hbody _ pre x _ ((as x W).putObj (w.heap.size + 1) (.loop (recd fn a ps assign body w.heap.size .busy none))) ((hI' x _).putObj _ (hA pre x W hi hx (by omega)) (by omega) la rfl) hx) fun e a3 W3 hp => ?_
    have fin : ∀ (j : Option Code), KeepsFrom w.heap.size ((as x W).putObj (w.heap.size + 1) (.loop (recd fn a ps assign body w.heap.size .busy none))) W3 →
        W3.heap[w.heap.size + 1]? = some (.loop (recd fn a ps assign body w.heap.size .busy none)) ∧ W3.heap[w.heap.size]? = some (.deferred (some [])) := fun j k3 => ⟨k3.same _ _ (by omega) b1 rfl, k3.same _ _ (Nat.le_refl _) b2 rfl⟩
    cases e with
    | normal =>
      obtain ⟨k3, p3, i3⟩ := hp
      obtain ⟨l3, d3⟩ := fin none k3
      exact ⟨_, _, run_endRound none l3, .inl ⟨rfl, ⟨pI _ _ _ _ _ (by omega) i3 l3 rfl, World.putObj_heap_same (Array.getElem?_eq_some_iff.1 l3).1, (World.putObj_heap_other hne).trans d3⟩, hKt (hKt (hKt (hKa x W (by omega)) (hKb _ _ _ la rfl)) p3) (hKb _ _ _ l3 rfl)⟩⟩
    | ret =>
      obtain ⟨k3, i3⟩ := hp
      obtain ⟨l3, d3⟩ := fin (some .ret) k3
      exact ⟨_, _, run_endRound (some .ret) l3, .inr ⟨rfl, .ret, pX _ _ _ _ _ _ (by omega) i3 l3 rfl, World.putObj_heap_same (Array.getElem?_eq_some_iff.1 l3).1, (World.putObj_heap_other hne).trans d3⟩⟩
    | exit id =>
      obtain ⟨k3, i3⟩ := hp
      obtain ⟨l3, d3⟩ := fin (some (.exit id)) k3
      exact ⟨_, _, run_endRound (some (.exit id)) l3, .inr ⟨rfl, .exit id, pX _ _ _ _ _ _ (by omega) i3 l3 rfl, World.putObj_heap_same (Array.getElem?_eq_some_iff.1 l3).1, (World.putObj_heap_other hne).trans d3⟩⟩
    | _ => exact hp.elim
  · rintro e W2 ⟨⟨v, rfl⟩, (⟨xs, hS, hi, hl, hd⟩ | ⟨pre, c, hi, hl, hd⟩)⟩
    · exact ⟨none, _, run_endLoop hl (by simp [recd]), hdone _ xs _ (Nat.le_refl _) hS (pI _ _ _ _ _ (by omega) hi hl rfl) ((World.putObj_heap_other hne).trans hd)⟩
    · exact ⟨some c, _, run_endLoop hl (by simp [recd]), hstop _ c pre _ (Nat.le_refl _) (pX _ _ _ _ _ _ (by omega) hi hl rfl) ((World.putObj_heap_other hne).trans hd)⟩
end
end Go.Proofs.Yteenbebpdibbcaa
