/- A range over a function that itself ranges over a function: a law of one's own for it. -/
import Derived.RangeFuncNested
import Derived.RangeFuncFrom
import Derived.RangeFuncBound
import Derived.RangeFuncCalls
import Derived.RangeFuncLeaves
import Derived.WalkKit
namespace Go.Proofs.Ytoddemcmmijoaaa
open Go.RowKit

/-- The iterator's word: it is never left early; what it hands out is let by Ok; what abides the turn of blocks that hold no cells, from where it was begun on, abides its own doings. -/
def SeqDeep {α : Type} (F : Fence) (n : Nat) (P : Program) (g : Nat) (lb : Array Value) (encs : α → Array Value) (Ok : List α → α → Prop) (Kp : Nat → World → World → Prop) (S : List α → Prop) (w : World) : Prop :=
  ∀ (l : Nat) (J : List α → World → Prop) (W : World), Below w.heap.size w W → OwnFrom W.heap.size J →
    (∀ pre x W1, J pre W1 → Ok pre x → YieldAt F (n - 1) P l (encs x) W1 fun e W' => e = .returned (.bool true) ∧ J (pre ++ [x]) W' ∧ Kp W.heap.size W1 W') →
    J [] W → CallsIn F n P g (#[.func (.yield l) #[] #[]] ++ lb) W fun e W' => (∃ v, e = .returned v) ∧ ∃ xs, S xs ∧ J xs W'

/-- A round ends at its end. -/
def AtEnd (R : World → Prop) : Exit → Act → World → Prop
  | .normal, _, W' => R W'
  | _, _, _ => False

/-- What a round keeps: the blocks of b, and whatever lies at N or beyond. -/
structure Kd (b : Nat → Prop) (N : Nat) (A B : World) : Prop where
  size : A.heap.size ≤ B.heap.size
  one : ∀ k, b k → B.heap[k]? = A.heap[k]?
  up : ∀ k, N ≤ k → k < A.heap.size → B.heap[k]? = A.heap[k]?
theorem Kd.refl (b : Nat → Prop) (N : Nat) (A : World) : Kd b N A A := ⟨Nat.le_refl _, fun _ _ => rfl, fun _ _ _ => rfl⟩
theorem Kd.trans {b : Nat → Prop} {N : Nat} {A B C : World} (h : Kd b N A B) (k : Kd b N B C) : Kd b N A C :=
  ⟨Nat.le_trans h.size k.size, fun i hi => (k.one i hi).trans (h.one i hi), fun i hi hl => (k.up i hi (by have := h.size; omega)).trans (h.up i hi hl)⟩
theorem Kd.put {b : Nat → Prop} {N l : Nat} {A : World} (hb : ¬ b l) (hl : l < N) (o : Obj) : Kd b N A (A.putObj l o) :=
  ⟨by simp [World.putObj], fun k hk => World.putObj_heap_other (by rintro rfl; exact hb hk), fun k hk _ => World.putObj_heap_other (by omega)⟩
theorem Kd.of {b : Nat → Prop} {N : Nat} {A B : World} (h : Below A.heap.size A B) (hb : ∀ k, b k → k < A.heap.size) : Kd b N A B :=
  ⟨h.size, fun k hk => h.block k (hb k hk), fun k _ hk => h.block k hk⟩
theorem Kd.set {b : Nat → Prop} {N : Nat} {A : World} {p : Addr} (hb : ¬ b p.block) (hN : p.block < N) (v : Value) : Kd b N A (A.setCell p v) :=
  ⟨by simp [World.setCell], fun k hk => Below.heap_setCell _ _ _ _ (by rintro rfl; exact hb hk), fun k hk _ => Below.heap_setCell _ _ _ _ (by omega)⟩
theorem Kd.drew {b : Nat → Prop} {N : Nat} {A : World} : Kd b N A A.drew := ⟨Nat.le_refl _, fun _ _ => rfl, fun _ _ _ => rfl⟩
theorem Kd.keeps {b : Nat → Prop} {N B : Nat} {A A' : World} (h : Kd b N A A') (hB : N ≤ B) : KeepsFrom B A A' := ⟨h.size, fun k o hk ho _ => (h.up k (by omega) (Array.getElem?_eq_some_iff.1 ho).1).trans ho⟩

section
variable {α : Type} {F : Fence} {n : Nat} {P : Program} {g : Operand} {ps : Array Tmp} {assign body : Code} {Q : Exit → Act → World → Prop} {a : Act} {w : World}

/-- The loop's record. -/
def recd (fn : FuncId) (a : Act) (ps : Array Tmp) (assign body : Code) (D : Nat) (st : LoopState) : Loop := { state := st, pending := none, fn := fn, tmps := a.tmps, params := ps, assign := assign, body := body, defers := D }

theorem wpIn_range_deep (hro : F.round = none) (h1 : 1 ≤ n) {gf : Nat} {lb : Array Value} (hg : a.eval g = .func (.func gf) #[] lb) (hFg : F.fn gf) (eg : ∀ args w, (callFunc gf args).run P w = .ok (.enter gf args) w)
    {encs : α → Array Value} {Ok : List α → α → Prop} {b : Nat → Prop} {S : List α → Prop} {w0 : World} (hseq : SeqDeep F (n - 1) P gf lb encs Ok (Kd b) S w0) (hb : ∀ k, b k → k < w.heap.size)
    (hb0 : Below w0.heap.size w0 w) (hps : ∀ x, (encs x).size = ps.size)
    (I : List α → World → Prop) (hI : OwnFrom w.heap.size I) (h0 : I [] w) (as : α → World → World) (a₁ : α → Nat → Act) (I' : α → Nat → List α → World → Prop) (hI' : ∀ x q, OwnFrom w.heap.size (I' x q))
    (has : ∀ x W, Below W.heap.size W (as x W))
    (hassign : ∀ (l : Nat) (x : α) (W : World) (K : Act → World → Prop), K (a₁ x W.heap.size) (as x W) → assign.wpIn (F.inRound l) (n - 1 - 1) P (Exit.then K (fun _ _ _ => False)) { tmps := (ps.zip (encs x)).foldl (fun t (p, v) => t.setIfInBounds p v) a.tmps, defers := [] } W)
    (hA : ∀ pre x W, I pre W → Ok pre x → w.heap.size ≤ W.heap.size → I' x W.heap.size pre (as x W))
    (hbody : ∀ (l : Nat) (pre : List α) (x : α) (q : Nat) (W : World), I' x q pre W → Ok pre x → body.wpIn (F.inRound l) (n - 1 - 1) P (AtEnd fun W' => KeepsFrom w.heap.size W W' ∧ Kd b (w.heap.size + 2) W W' ∧ I (pre ++ [x]) W') (a₁ x q) W)
    (hdone : ∀ (D : Nat) (xs : List α) (W : World), w.heap.size ≤ D → S xs → I xs W → W.heap[D]? = some (.deferred (some [])) → Q .normal { a with defers := { target := .collected D, args := #[] } :: a.defers } W) :
    (Code.rangeFunc g ps assign body).wpIn F n P Q a w := by
  refine wpIn_rangeFunc fun fn hfn => ?_
  have hne : w.heap.size ≠ w.heap.size + 1 := by omega
  have pI : ∀ s A l o o', w.heap.size ≤ l → I s A → A.heap[l]? = some o → o.isCells = false → I s (A.putObj l o') := fun s A l o o' hle hs ho hc => hI.putObj o' hs hle ho hc
  obtain ⟨W1, hW1⟩ : ∃ W1, (w.alloc (.deferred (some []))).alloc (.loop (recd fn a ps assign body w.heap.size .ready)) = W1 := ⟨_, rfl⟩
  have hl1 : W1.heap[w.heap.size + 1]? = some (.loop (recd fn a ps assign body w.heap.size .ready)) := by
    rw [← hW1]; have := World.alloc_heap_new (w.alloc (.deferred (some []))) (.loop (recd fn a ps assign body w.heap.size .ready)); rwa [World.size_alloc] at this
  have hd1 : W1.heap[w.heap.size]? = some (.deferred (some [])) := by rw [← hW1]; exact (Below.heap_alloc _ _ _ (by simp)).trans (World.alloc_heap_new w _)
  have hb1 : Below w.heap.size w W1 := by rw [← hW1]; exact ((Below.refl _ w).alloc (Nat.le_refl _) _).alloc (by simp) _
  have hi1 : I [] W1 := by rw [← hW1]; exact hI.alloc _ (hI.alloc _ h0)
  have hs1 : W1.heap.size = w.heap.size + 2 := by rw [← hW1]; simp
  refine ⟨w.heap.size + 1, [{ target := .collected w.heap.size, args := #[] }], W1, { target := .fn (.func gf) lb, args := #[.func (.yield (w.heap.size + 1)) #[] #[]] }, W1, gf, #[.func (.yield (w.heap.size + 1)) #[] #[]] ++ lb, W1, ?_, ?_, ?_, ?_, fun _ => h1, ?_⟩
  · rw [← hW1, hro]; exact run_enterLoop_outer _ _ _ _ _
  · simp only [resolve, hg]; simp [go_sem]
  · intro f' hf'; simp [Target.leads] at hf'; subst hf'; exact hFg
  · simp [invoke, go_sem, eg]
  have hJ : OwnFrom W1.heap.size (fun pre W => I pre W ∧ W.heap[w.heap.size + 1]? = some (.loop (recd fn a ps assign body w.heap.size .ready)) ∧ W.heap[w.heap.size]? = some (.deferred (some []))) := fun s A B row hs hg' hr => by
    refine ⟨hI s A B row hs.1 hg' (fun r e => by obtain ⟨q1, o, q2, q3⟩ := hr r e; exact ⟨by omega, o, q2, q3⟩), ?_, ?_⟩
    · refine (hg'.block (w.heap.size + 1) (Array.getElem?_eq_some_iff.1 hs.2.1).1 (fun e => ?_)).trans hs.2.1
      have := (hr _ e.symm).1; omega
    · refine (hg'.block w.heap.size (Array.getElem?_eq_some_iff.1 hs.2.2).1 (fun e => ?_)).trans hs.2.2
      have := (hr _ e.symm).1; omega
  refine (hseq (w.heap.size + 1) _ W1 (hb0.trans (hb1.mono hb0.size)) hJ (fun pre x W hj hx => ?_) ⟨hi1, hl1, hd1⟩).mono ?_
  · obtain ⟨hi, hl, hd⟩ := hj
    have hL : w.heap.size + 1 < W.heap.size := (Array.getElem?_eq_some_iff.1 hl).1
    have hD : w.heap.size < W.heap.size := by omega
    have la := ((has x W).block _ hL).trans hl
    have da := ((has x W).block _ hD).trans hd
    have hLa : w.heap.size + 1 < (as x W).heap.size := (Array.getElem?_eq_some_iff.1 la).1
    rw [hs1]
    refine ⟨_, _, _, _, run_yield hl (hps x), roundIn_of_wpIn hfn (hassign _ x W _ ⟨_, run_beginRound la rfl, ?_⟩)⟩
    have b1 : ((as x W).putObj (w.heap.size + 1) (.loop (recd fn a ps assign body w.heap.size .busy))).heap[w.heap.size + 1]? = some (.loop (recd fn a ps assign body w.heap.size .busy)) := World.putObj_heap_same hLa
    have b2 : ((as x W).putObj (w.heap.size + 1) (.loop (recd fn a ps assign body w.heap.size .busy))).heap[w.heap.size]? = some (.deferred (some [])) := (World.putObj_heap_other hne).trans da
    have kA : Kd b (w.heap.size + 2) W (as x W) := Kd.of (has x W) fun k hk => by have := hb k hk; omega
    refine wpIn_mono (hbody _ pre x _ ((as x W).putObj (w.heap.size + 1) (.loop (recd fn a ps assign body w.heap.size .busy))) ((hI' x _).putObj _ (hA pre x W hi hx (by omega)) (by omega) la rfl) hx) fun e a3 W3 hp => ?_
    cases e with
    | normal =>
      obtain ⟨k3, p3, i3⟩ := hp
      have l3 := k3.same _ _ (by omega) b1 rfl
      have d3 := k3.same _ _ (Nat.le_refl _) b2 rfl
      exact ⟨_, _, run_endRound none l3, rfl, ⟨pI _ _ _ _ _ (by omega) i3 l3 rfl, World.putObj_heap_same (Array.getElem?_eq_some_iff.1 l3).1, (World.putObj_heap_other hne).trans d3⟩, kA.trans (((Kd.put (fun c => by have := hb _ c; omega) (by omega) _).trans p3).trans (Kd.put (fun c => by have := hb _ c; omega) (by omega) _))⟩
    | _ => exact hp.elim
  · rintro e W2 ⟨⟨v, rfl⟩, xs, hS, hi, hl, hd⟩
    exact ⟨none, _, run_endLoop hl (by simp [recd]), hdone _ xs _ (Nat.le_refl _) hS (pI _ _ _ _ _ (by omega) hi hl rfl) ((World.putObj_heap_other hne).trans hd)⟩
end
end Go.Proofs.Ytoddemcmmijoaaa
