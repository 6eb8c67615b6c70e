/- A range over a function that hands out what lies in memory since it was asked: the body may count on what it is handed being there. -/
import Derived.RangeFuncNested
import Derived.RangeFuncFrom
import Derived.RangeFuncBound
import Derived.RangeFuncCalls
import Derived.RangeFuncLeaves
import Derived.WalkKit
namespace Go.Proofs.Ytiijbklaapaheaa
open Go.RowKit

/-- The iterator's word: what it hands out, x, is in memory as Sh says when it hands it out; it is never left early. -/
def SeqShows {α : Type} (F : Fence) (n : Nat) (P : Program) (g : Nat) (lb : Array Value) (encs : α → Array Value) (Sh : α → World → Prop) (Kp : World → World → Prop) (S : List α → Prop) (N : Nat) (w : World) : Prop :=
  ∀ (l : Nat) (J : List α → World → Prop) (W : World), Below w.heap.size w W → AbidesFrom W.heap.size J →
    (∀ pre x W1, J pre W1 → Sh x W1 → pre.length < N → YieldAt F (n - 1) P l (encs x) W1 fun e W' => e = .returned (.bool true) ∧ J (pre ++ [x]) W' ∧ Kp W1 W') →
    J [] W → CallsIn F n P g (#[.func (.yield l) #[] #[]] ++ lb) W fun e W' => (∃ v, e = .returned v) ∧ ∃ xs, S xs ∧ J xs W'

/-- A round ends at its end. -/
def AtEnd (R : World → Prop) : Exit → Act → World → Prop
  | .normal, _, W' => R W'
  | _, _, _ => False

section
variable {α : Type} {F : Fence} {n : Nat} {P : Program} {g : Operand} {ps : Array Tmp} {assign body : Code} {Q : Exit → Act → World → Prop} {a : Act} {w : World}

/-- The loop's record. -/
def recd (fn : FuncId) (a : Act) (ps : Array Tmp) (assign body : Code) (D : Nat) (st : LoopState) : Loop := { state := st, pending := none, fn := fn, tmps := a.tmps, params := ps, assign := assign, body := body, defers := D }

theorem round_shows {fn : FuncId} {L D : Nat} {encs : α → Array Value} {Sh : α → World → Prop} {Kp : World → World → Prop} {I : List α → World → Prop} {W : World} {pre : List α} {x : α} {a₁ : α → Act} (hfn : F.fn fn) (hLD : D ≠ L)
    (hl : W.heap[L]? = some (.loop (recd fn a ps assign body D .ready))) (hd : W.heap[D]? = some (.deferred (some [])))
    (hps : (encs x).size = ps.size) (hI : ∀ s A l o o', L ≤ l → I s A → A.heap[l]? = some o → o.isCells = false → I s (A.putObj l o')) (hSh : ∀ A o', A.heap[L]? = some (.loop o') → Sh x A → ∀ o, Sh x (A.putObj L o))
    (hKt : ∀ {A B C : World}, Kp A B → Kp B C → Kp A C) (hKb : ∀ (A : World) (o : Loop) (o' : Obj), A.heap[L]? = some (.loop o) → Kp A (A.putObj L o'))
    (hassign : ∀ (K : Act → World → Prop), K (a₁ x) W → assign.wpIn (F.inRound L) n P (Exit.then K (fun _ _ _ => False)) { tmps := (ps.zip (encs x)).foldl (fun t (p, v) => t.setIfInBounds p v) a.tmps, defers := [] } W)
    (hi : I pre W) (hx : Sh x W)
    (hbody : ∀ A, I pre A → Sh x A → body.wpIn (F.inRound L) n P (AtEnd fun W' => KeepsOthers A W' ∧ Kp A W' ∧ I (pre ++ [x]) W') (a₁ x) A) :
    YieldAt F n P L (encs x) W fun e W' => e = .returned (.bool true) ∧ (I (pre ++ [x]) W' ∧ W'.heap[L]? = some (.loop (recd fn a ps assign body D .ready)) ∧ W'.heap[D]? = some (.deferred (some []))) ∧ Kp W W' := by
  have hL : L < W.heap.size := (Array.getElem?_eq_some_iff.1 hl).1
  refine ⟨_, _, _, _, run_yield hl hps, roundIn_of_wpIn hfn (hassign _ ⟨_, run_beginRound hl rfl, ?_⟩)⟩
  have b1 : (W.putObj L (.loop (recd fn a ps assign body D .busy))).heap[L]? = some (.loop (recd fn a ps assign body D .busy)) := World.putObj_heap_same hL
  have b2 : (W.putObj L (.loop (recd fn a ps assign body D .busy))).heap[D]? = some (.deferred (some [])) := (World.putObj_heap_other hLD).trans hd
  refine wpIn_mono (hbody (W.putObj L (.loop (recd fn a ps assign body D .busy))) (hI _ _ _ _ _ (Nat.le_refl _) hi hl rfl) (hSh _ _ hl hx _)) fun e a3 W3 hp => ?_
  cases e with
  | normal =>
    obtain ⟨k3, p3, i3⟩ := hp
    have l3 := k3.same _ _ b1 rfl
    have d3 := k3.same _ _ b2 rfl
    exact ⟨_, _, run_endRound none l3, rfl, ⟨hI _ _ _ _ _ (Nat.le_refl _) i3 l3 rfl, World.putObj_heap_same (Array.getElem?_eq_some_iff.1 l3).1, (World.putObj_heap_other hLD).trans d3⟩, hKt (hKt (hKb _ _ _ hl) p3) (hKb _ _ _ l3)⟩
  | _ => exact hp.elim

theorem wpIn_range_shows (hro : F.round = none) (h1 : 1 ≤ n) {gf : Nat} {lb : Array Value} (hg : a.eval g = .func (.func gf) #[] lb) (hFg : F.fn gf) (eg : ∀ args w, (callFunc gf args).run P w = .ok (.enter gf args) w)
    {encs : α → Array Value} {Sh : α → World → Prop} {Kp : World → World → Prop} {S : List α → Prop} {N : Nat} {w0 : World} (hseq : SeqShows F (n - 1) P gf lb encs Sh Kp S N w0)
    (hKt : ∀ {A B C : World}, Kp A B → Kp B C → Kp A C) (hKb : ∀ (W : World) (l : Nat) (o o' : Obj), w.heap.size ≤ l → W.heap[l]? = some o → o.isCells = false → Kp W (W.putObj l o')) (hb0 : Below w0.heap.size w0 w) (hps : ∀ x, (encs x).size = ps.size)
    (hSh : ∀ x W l o o', Sh x W → w.heap.size ≤ l → W.heap[l]? = some o → o.isCells = false → Sh x (W.putObj l o'))
    (I : List α → World → Prop) (hI : OwnFrom w.heap.size I) (h0 : I [] w) (a₁ : α → Act)
    (hassign : ∀ (l : Nat) (x : α) (W : World) (K : Act → World → Prop), K (a₁ x) W → assign.wpIn (F.inRound l) (n - 1 - 1) P (Exit.then K (fun _ _ _ => False)) { tmps := (ps.zip (encs x)).foldl (fun t (p, v) => t.setIfInBounds p v) a.tmps, defers := [] } W)
    (hbody : ∀ (l : Nat) (pre : List α) (x : α) (W : World), I pre W → Sh x W → pre.length < N → body.wpIn (F.inRound l) (n - 1 - 1) P (AtEnd fun W' => KeepsOthers W W' ∧ Kp W W' ∧ I (pre ++ [x]) W') (a₁ x) W)
    (hdone : ∀ (D : Nat) (xs : List α) (W : World), w.heap.size ≤ D → S xs → I xs W → W.heap[D]? = some (.deferred (some [])) → Q .normal { a with defers := { target := .collected D, args := #[] } :: a.defers } W) :
    (Code.rangeFunc g ps assign body).wpIn F n P Q a w := by
  refine wpIn_rangeFunc fun fn hfn => ?_
  have hne : w.heap.size ≠ w.heap.size + 1 := by omega
  have pI : ∀ s A l o o', w.heap.size ≤ l → I s A → A.heap[l]? = some o → o.isCells = false → I s (A.putObj l o') := fun s A l o o' hle hs ho hc => hI.putObj o' hs hle ho hc
  obtain ⟨W1, hW1⟩ : ∃ W1, (w.alloc (.deferred (some []))).alloc (.loop (recd fn a ps assign body w.heap.size .ready)) = W1 := ⟨_, rfl⟩
  have hl1 : W1.heap[w.heap.size + 1]? = some (.loop (recd fn a ps assign body w.heap.size .ready)) := by
    rw [← hW1]; have := World.alloc_heap_new (w.alloc (.deferred (some []))) (.loop (recd fn a ps assign body w.heap.size .ready)); rwa [World.size_alloc] at this
  have hd1 : W1.heap[w.heap.size]? = some (.deferred (some [])) := by rw [← hW1]; exact (Below.heap_alloc _ _ _ (by simp)).trans (World.alloc_heap_new w _)
  have hb1 : Below w.heap.size w W1 := by rw [← hW1]; exact ((Below.refl _ w).alloc (Nat.le_refl _) _).alloc (by simp) _
  have hi1 : I [] W1 := by rw [← hW1]; exact hI.alloc _ (hI.alloc _ h0)
  have hs1 : w.heap.size ≤ W1.heap.size := hb1.size
  refine ⟨w.heap.size + 1, [{ target := .collected w.heap.size, args := #[] }], W1, { target := .fn (.func gf) lb, args := #[.func (.yield (w.heap.size + 1)) #[] #[]] }, W1, gf, #[.func (.yield (w.heap.size + 1)) #[] #[]] ++ lb, W1, ?_, ?_, ?_, ?_, fun _ => h1, ?_⟩
  · rw [← hW1, hro]; exact run_enterLoop_outer _ _ _ _ _
  · simp only [resolve, hg]; simp [go_sem]
  · intro f' hf'; simp [Target.leads] at hf'; subst hf'; exact hFg
  · simp [invoke, go_sem, eg]
  have hJ : AbidesFrom W1.heap.size (fun pre W => I pre W ∧ W.heap[w.heap.size + 1]? = some (.loop (recd fn a ps assign body w.heap.size .ready)) ∧ W.heap[w.heap.size]? = some (.deferred (some []))) := fun s A B row hs hg' hr =>
    ⟨hI s A B row hs.1 hg' (fun r e => by obtain ⟨q1, o, q2, q3⟩ := hr r e; exact ⟨by omega, o, q2, Obj.not_cells_of_walk q3⟩), (grownBy_keeps hg' (fun r e => (hr r e).2) hs.2.1 rfl).trans hs.2.1, (grownBy_keeps hg' (fun r e => (hr r e).2) hs.2.2 rfl).trans hs.2.2⟩
  refine (hseq (w.heap.size + 1) _ W1 (hb0.trans (hb1.mono hb0.size)) hJ (fun pre x W hj hx hlen => ?_) ⟨hi1, hl1, hd1⟩).mono ?_
  · exact round_shows hfn hne hj.2.1 hj.2.2 (hps x) (fun s A l o o' hle => pI s A l o o' (by omega)) (fun A o' ho hs o => hSh x A _ _ o hs (by omega) ho rfl) (fun h k => hKt h k) (fun A o o' ho => hKb A _ _ o' (by omega) ho rfl) (fun K hK => hassign _ x W K hK) hj.1 hx (fun A hA hsA => hbody _ pre x A hA hsA hlen)
  · rintro e W2 ⟨⟨v, rfl⟩, xs, hS, hi, hl, hd⟩
    exact ⟨none, _, run_endLoop hl (by simp [recd]), hdone _ xs _ (Nat.le_refl _) hS (pI _ _ _ _ _ (by omega) hi hl rfl) ((World.putObj_heap_other hne).trans hd)⟩
end
end Go.Proofs.Ytiijbklaapaheaa
