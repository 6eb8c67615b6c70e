/- Locks in memory: a store of typed cells, and the memory that holds it. -/
import Derived.Test.YteenbebpdibbcaaI1
namespace Go.Proofs.Yteenbebpdibbcaa
open Go.RowKit
set_option maxRecDepth 100000

abbrev PN (p : Nat) : Value := .pointer (some ⟨p, 0, none⟩)
abbrev nilP : Value := .pointer none
/-- All blocks below N but those of S are as they were. -/
structure Upd (S : Nat → Prop) (N : Nat) (w w' : World) : Prop where
  os : w'.os = w.os
  tape : w'.tape = w.tape
  output : w'.output = w.output
  size : w.heap.size ≤ w'.heap.size
  block : ∀ k, k < N → ¬ S k → w'.heap[k]? = w.heap[k]?
theorem Upd.refl (S : Nat → Prop) (N : Nat) (w : World) : Upd S N w w := ⟨rfl, rfl, rfl, Nat.le_refl _, fun _ _ _ => rfl⟩
theorem Upd.trans {S : Nat → Prop} {N : Nat} {a b c : World} (h : Upd S N a b) (k : Upd S N b c) : Upd S N a c :=
  ⟨k.os.trans h.os, k.tape.trans h.tape, k.output.trans h.output, Nat.le_trans h.size k.size, fun i hi hs => (k.block i hi hs).trans (h.block i hi hs)⟩
theorem Upd.mono {S S' : Nat → Prop} {N N' : Nat} {w w' : World} (h : Upd S N w w') (hN : N' ≤ N) (hS : ∀ k, k < N' → S k → S' k) : Upd S' N' w w' :=
  ⟨h.os, h.tape, h.output, h.size, fun k hk hs => h.block k (by omega) (fun c => hs (hS k hk c))⟩
theorem Upd.less {S : Nat → Prop} {N N' : Nat} {w w' : World} (h : Upd S N w w') (hN : N' ≤ N) : Upd S N' w w' := h.mono hN fun _ _ c => c
theorem Upd.drew {S : Nat → Prop} {N : Nat} {a w : World} (h : Upd S N a w) : Upd S N a w.drew := ⟨h.os, h.tape, h.output, h.size, h.block⟩
theorem Upd.alloc {S : Nat → Prop} {N : Nat} {a w : World} (h : Upd S N a w) (hN : N ≤ w.heap.size) (o : Obj) : Upd S N a (w.alloc o) :=
  h.trans ⟨rfl, rfl, rfl, by simp, fun k hk _ => Below.heap_alloc _ _ _ (by omega)⟩
theorem Upd.setCell {S : Nat → Prop} {N : Nat} {a w : World} (h : Upd S N a w) {p : Addr} (hp : S p.block ∨ N ≤ p.block) (u : Value) : Upd S N a (w.setCell p u) :=
  h.trans ⟨rfl, rfl, rfl, by simp [World.setCell], fun k hk hs => Below.heap_setCell _ _ _ _ (by rintro rfl; rcases hp with hp | hp; exact hs hp; omega)⟩
theorem Upd.of {S : Nat → Prop} {B : Nat} {w w' : World} (h : Below B w w') : Upd S B w w' := ⟨h.os, h.tape, h.output, h.size, fun k hk _ => h.block k hk⟩
theorem Upd.below {S : Nat → Prop} {N B : Nat} {w w' : World} (h : Upd S N w w') (hB : B ≤ N) (hS : ∀ k, k < B → ¬ S k) : Below B w w' := ⟨h.os, h.tape, h.output, h.size, fun k hk => h.block k (by omega) (hS k hk)⟩

def PO : Option Nat → Value
  | none => nilP
  | some b => PN b
structure Cl where
  by' : Nat
  k : Ky
  ex : Bool
  hd : Bool
  ah : Option Nat
  be : Option Nat
structure Sp where
  of : Nat
  ah : Option Nat
  be : Option Nat
structure Ak where
  id : Ky
  num : Int
  v : Value
  cl : List Nat
  lacks : Int
structure Ln where
  f : Option Nat
  l : Option Nat
def clC (c : Cl) : Array Value := #[PN c.by', .int .i32 c.k.1, .int .i64 c.k.2, .bool c.ex, .bool c.hd, PO c.ah, PO c.be]
def spC (c : Sp) : Array Value := #[PN c.of, PO c.ah, PO c.be]
def akC (c : Ak) : Array Value := #[.int .i64 c.id.1, .int .i64 c.id.2, .int .i64 c.num, c.v, .int .i64 c.lacks]
def lnC (c : Ln) : Array Value := #[PO c.f, PO c.l]
structure Sto where
  fi : Option Nat
  la : Option Nat
  asked : Int
  cs : Nat → Option Cl
  sp : Nat → Option Sp
  ak : Nat → Option Ak
  ln : Nat → Option Ln
  Q : Ky → Option Nat
  P : Ky → Option Nat
def up {α : Type} (f : Nat → Option α) (b : Nat) (c : α) : Nat → Option α := fun x => if x = b then some c else f x
theorem up_same {α : Type} (f : Nat → Option α) (b : Nat) (c : α) : up f b c b = some c := by simp [up]
theorem up_other {α : Type} (f : Nat → Option α) {b x : Nat} (c : α) (h : x ≠ b) : up f b c x = f x := by simp [up, h]
def topC (mq mp : Nat) (S : Sto) : Array Value := #[.map (some mq), PO S.fi, PO S.la, .map (some mp), .int .i64 S.asked]
structure Mem (B : Nat → Prop) (lb mq mp : Nat) (w : World) (S : Sto) : Prop where
  top : w.heap[lb]? = some (.cells (topC mq mp S) 74)
  cs : ∀ b c, S.cs b = some c → w.heap[b]? = some (.cells (clC c) 109) ∧ B b
  sp : ∀ b c, S.sp b = some c → w.heap[b]? = some (.cells (spC c) 101) ∧ B b
  ak : ∀ b c, S.ak b = some c → w.heap[b]? = some (.cells (akC c) 89) ∧ B b
  ln : ∀ b c, S.ln b = some c → w.heap[b]? = some (.cells (lnC c) 130) ∧ B b
  row : ∀ b c, S.ak b = some c → w.ownsRow 0 91 1 c.v c.cl.length (c.cl.map PN) ∧ ∀ g, c.v.ownBlock = some g → B g
  ap : ∀ b c b' c' g, S.ak b = some c → S.ak b' = some c' → c.v.ownBlock = some g → c'.v.ownBlock = some g → b = b'
  q : MapS w mq (fun k => (S.Q k).map PN)
  p : I.MapS w mp (fun k => (S.P k).map PN)
  bt : B lb ∧ B mq ∧ B mp ∧ mq ≠ mp

theorem setCell_far {w : World} {g i h : Nat} {v : Value} (hn : h ≠ g) : (w.setCell ⟨g, i, none⟩ v).heap[h]? = w.heap[h]? := by
  unfold World.setCell
  simp only [Array.getElem?_modify]
  rw [if_neg (fun e => hn e.symm)]
theorem frozen_of_heap {w : World} {b o : Nat} {cs : Array Value} {T : TypeId} (h : w.heap[b]? = some (.cells cs T)) : w.frozen? ⟨b, o, none⟩ = false := by
  simp [World.frozen?, h]
theorem ne_ty {w : World} {g j : Nat} {cs cs' : Array Value} {T T' : TypeId} (hg : w.heap[g]? = some (.cells cs T)) (hj : w.heap[j]? = some (.cells cs' T')) (hT : T' ≠ T) : j ≠ g := fun e => by
  subst e
  rw [hg] at hj
  simp only [Option.some.injEq, Obj.cells.injEq] at hj
  exact hT hj.2.1.symm
theorem lt_of {w : World} {g : Nat} {o : Obj} (h : w.heap[g]? = some o) : g < w.heap.size := (Array.getElem?_eq_some_iff.1 h).1
theorem own_in {w : World} {base e n : Nat} {v : Value} {xs : List Value} {size : Nat} (h : w.ownsRow base e size v n xs) {g : Nat} (hg : v.ownBlock = some g) : ∃ cur, w.heap[g]? = some (.cells cur e) := by
  rcases h.2 with ⟨rfl, _⟩ | ⟨g2, cap2, cur2, rfl, _, h2, _⟩
  · simp [Value.ownBlock] at hg
  · simp only [Value.ownBlock, Option.some.injEq] at hg
    subst hg
    exact ⟨_, h2⟩
theorem own_keep {w w' : World} {base e n : Nat} {v : Value} {xs : List Value} {size : Nat} (h : w.ownsRow base e size v n xs) (hk : ∀ g, v.ownBlock = some g → w'.heap[g]? = w.heap[g]?) : w'.ownsRow base e size v n xs := by
  refine ⟨h.1, ?_⟩
  rcases h.2 with hn | ⟨g', cap', cur, hv', hb', hh, r⟩
  · exact .inl hn
  · exact .inr ⟨g', cap', cur, hv', hb', (hk g' (by rw [hv']; rfl)).trans hh, r⟩
section
variable {B : Nat → Prop} {lb mq mp : Nat} {w w' : World} {S : Sto}
theorem Mem.mono {B' : Nat → Prop} (h : Mem B lb mq mp w S) (hB : ∀ j, j < w.heap.size → B j → B' j) : Mem B' lb mq mp w S :=
  ⟨h.top, fun b c e => ⟨(h.cs b c e).1, hB _ (lt_of (h.cs b c e).1) (h.cs b c e).2⟩, fun b c e => ⟨(h.sp b c e).1, hB _ (lt_of (h.sp b c e).1) (h.sp b c e).2⟩, fun b c e => ⟨(h.ak b c e).1, hB _ (lt_of (h.ak b c e).1) (h.ak b c e).2⟩, fun b c e => ⟨(h.ln b c e).1, hB _ (lt_of (h.ln b c e).1) (h.ln b c e).2⟩, fun b c e => ⟨(h.row b c e).1, fun g hg => hB _ (by obtain ⟨cur, hc⟩ := own_in (h.row b c e).1 hg; exact lt_of hc) ((h.row b c e).2 g hg)⟩, h.ap, h.q, h.p, hB _ (lt_of h.top) h.bt.1, hB _ h.q.lt h.bt.2.1, hB _ h.p.lt h.bt.2.2.1, h.bt.2.2.2⟩
theorem Mem.cut (h : Mem B lb mq mp w S) : Mem (fun j => B j ∧ j < w.heap.size) lb mq mp w S := h.mono fun _ hj hb => ⟨hb, hj⟩
theorem Mem.keep (h : Mem B lb mq mp w S) (hk : ∀ j, j < w.heap.size → B j → w'.heap[j]? = w.heap[j]?) : Mem B lb mq mp w' S :=
  ⟨(hk _ (lt_of h.top) h.bt.1).trans h.top, fun b c e => ⟨(hk _ (lt_of (h.cs b c e).1) (h.cs b c e).2).trans (h.cs b c e).1, (h.cs b c e).2⟩, fun b c e => ⟨(hk _ (lt_of (h.sp b c e).1) (h.sp b c e).2).trans (h.sp b c e).1, (h.sp b c e).2⟩, fun b c e => ⟨(hk _ (lt_of (h.ak b c e).1) (h.ak b c e).2).trans (h.ak b c e).1, (h.ak b c e).2⟩, fun b c e => ⟨(hk _ (lt_of (h.ln b c e).1) (h.ln b c e).2).trans (h.ln b c e).1, (h.ln b c e).2⟩, fun b c e => ⟨own_keep (h.row b c e).1 fun g hg => hk g (by obtain ⟨cur, hc⟩ := own_in (h.row b c e).1 hg; exact lt_of hc) ((h.row b c e).2 g hg), (h.row b c e).2⟩, h.ap, h.q.keep (hk _ h.q.lt h.bt.2.1), h.p.keep (hk _ h.p.lt h.bt.2.2.1), h.bt⟩
theorem Mem.below (h : Mem B lb mq mp w S) (hb : Below w.heap.size w w') : Mem B lb mq mp w' S := h.keep fun j hj _ => hb.block j hj
theorem Mem.drew (h : Mem B lb mq mp w S) : Mem B lb mq mp w.drew S := h.keep fun _ _ _ => rfl
theorem Mem.upd {B' : Nat → Prop} (h : Mem B lb mq mp w S) (hu : Upd B' w.heap.size w w') (hd : ∀ j, B j → ¬ B' j) : Mem B lb mq mp w' S := h.keep fun j hj hb => hu.block j hj (hd j hb)
/-- The rows, where a block of another type has turned. -/
theorem Mem.rows (h : Mem B lb mq mp w S) {g : Nat} {cs : Array Value} {T : TypeId} (hg : w.heap[g]? = some (.cells cs T)) (hT : T ≠ 91) (far : ∀ j, j ≠ g → w'.heap[j]? = w.heap[j]?) (b : Nat) (c : Ak) (e : S.ak b = some c) : w'.ownsRow 0 91 1 c.v c.cl.length (c.cl.map PN) ∧ ∀ g, c.v.ownBlock = some g → B g :=
  ⟨own_keep (h.row b c e).1 fun j hj => far j (by obtain ⟨cur, hc⟩ := own_in (h.row b c e).1 hj; exact ne_ty hg hc (Ne.symm hT)), (h.row b c e).2⟩
theorem Mem.set_cs (h : Mem B lb mq mp w S) {b : Nat} {c c' : Cl} {i : Nat} {v : Value} (hb : S.cs b = some c) (hc : (clC c).setIfInBounds i v = clC c') : Mem B lb mq mp (w.setCell ⟨b, i, none⟩ v) { S with cs := up S.cs b c' } := by
  have hg := (h.cs b c hb).1
  have far : ∀ j, j ≠ b → (w.setCell ⟨b, i, none⟩ v).heap[j]? = w.heap[j]? := fun j hj => setCell_far hj
  have same : (w.setCell ⟨b, i, none⟩ v).heap[b]? = some (.cells (clC c') 109) := by rw [heap_setCell_same w b i _ 109 v hg, hc]
  refine ⟨(far _ (ne_ty hg h.top (by decide))).trans h.top, fun x d hd => ?_, fun x d hd => ⟨(far _ (ne_ty hg (h.sp x d hd).1 (by decide))).trans (h.sp x d hd).1, (h.sp x d hd).2⟩, fun x d hd => ⟨(far _ (ne_ty hg (h.ak x d hd).1 (by decide))).trans (h.ak x d hd).1, (h.ak x d hd).2⟩, fun x d hd => ⟨(far _ (ne_ty hg (h.ln x d hd).1 (by decide))).trans (h.ln x d hd).1, (h.ln x d hd).2⟩, h.rows hg (by decide) far, h.ap, h.q.keep (far _ (h.q.apart hg).symm), h.p.keep (far _ (h.p.apart hg).symm), h.bt⟩
  by_cases e : x = b
  · subst e
    rw [show (({ S with cs := up S.cs x c' } : Sto).cs x) = some c' from up_same _ _ _] at hd
    injection hd with hd
    subst hd
    exact ⟨same, (h.cs x c hb).2⟩
  · rw [show (({ S with cs := up S.cs b c' } : Sto).cs x) = S.cs x from up_other _ _ e] at hd
    exact ⟨(far _ e).trans (h.cs x d hd).1, (h.cs x d hd).2⟩
theorem Mem.new_cs (h : Mem B lb mq mp w S) (hB : B w.heap.size) (c : Cl) : Mem B lb mq mp (w.alloc (.cells (clC c) 109)) { S with cs := up S.cs w.heap.size c } ∧ S.cs w.heap.size = none := by
  have hno : S.cs w.heap.size = none := by
    cases e : S.cs w.heap.size with
    | none => rfl
    | some d => exact absurd (lt_of (h.cs _ d e).1) (Nat.lt_irrefl _)
  have hk := h.below (below_box (.cells (clC c) 109))
  refine ⟨⟨hk.top, fun x d hd => ?_, hk.sp, hk.ak, hk.ln, hk.row, hk.ap, hk.q, hk.p, hk.bt⟩, hno⟩
  by_cases e : x = w.heap.size
  · subst e
    rw [show (({ S with cs := up S.cs w.heap.size c } : Sto).cs w.heap.size) = some c from up_same _ _ _] at hd
    injection hd with hd
    subst hd
    exact ⟨heap_alloc_new w _, hB⟩
  · rw [show (({ S with cs := up S.cs w.heap.size c } : Sto).cs x) = S.cs x from up_other _ _ e] at hd
    exact hk.cs x d hd
theorem Mem.set_sp (h : Mem B lb mq mp w S) {b : Nat} {c c' : Sp} {i : Nat} {v : Value} (hb : S.sp b = some c) (hc : (spC c).setIfInBounds i v = spC c') : Mem B lb mq mp (w.setCell ⟨b, i, none⟩ v) { S with sp := up S.sp b c' } := by
  have hg := (h.sp b c hb).1
  have far : ∀ j, j ≠ b → (w.setCell ⟨b, i, none⟩ v).heap[j]? = w.heap[j]? := fun j hj => setCell_far hj
  have same : (w.setCell ⟨b, i, none⟩ v).heap[b]? = some (.cells (spC c') 101) := by rw [heap_setCell_same w b i _ 101 v hg, hc]
  refine ⟨(far _ (ne_ty hg h.top (by decide))).trans h.top, fun x d hd => ⟨(far _ (ne_ty hg (h.cs x d hd).1 (by decide))).trans (h.cs x d hd).1, (h.cs x d hd).2⟩, fun x d hd => ?_, fun x d hd => ⟨(far _ (ne_ty hg (h.ak x d hd).1 (by decide))).trans (h.ak x d hd).1, (h.ak x d hd).2⟩, fun x d hd => ⟨(far _ (ne_ty hg (h.ln x d hd).1 (by decide))).trans (h.ln x d hd).1, (h.ln x d hd).2⟩, h.rows hg (by decide) far, h.ap, h.q.keep (far _ (h.q.apart hg).symm), h.p.keep (far _ (h.p.apart hg).symm), h.bt⟩
  by_cases e : x = b
  · subst e
    rw [show (({ S with sp := up S.sp x c' } : Sto).sp x) = some c' from up_same _ _ _] at hd
    injection hd with hd
    subst hd
    exact ⟨same, (h.sp x c hb).2⟩
  · rw [show (({ S with sp := up S.sp b c' } : Sto).sp x) = S.sp x from up_other _ _ e] at hd
    exact ⟨(far _ e).trans (h.sp x d hd).1, (h.sp x d hd).2⟩
theorem Mem.new_sp (h : Mem B lb mq mp w S) (hB : B w.heap.size) (c : Sp) : Mem B lb mq mp (w.alloc (.cells (spC c) 101)) { S with sp := up S.sp w.heap.size c } ∧ S.sp w.heap.size = none := by
  have hno : S.sp w.heap.size = none := by
    cases e : S.sp w.heap.size with
    | none => rfl
    | some d => exact absurd (lt_of (h.sp _ d e).1) (Nat.lt_irrefl _)
  have hk := h.below (below_box (.cells (spC c) 101))
  refine ⟨⟨hk.top, hk.cs, fun x d hd => ?_, hk.ak, hk.ln, hk.row, hk.ap, hk.q, hk.p, hk.bt⟩, hno⟩
  by_cases e : x = w.heap.size
  · subst e
    rw [show (({ S with sp := up S.sp w.heap.size c } : Sto).sp w.heap.size) = some c from up_same _ _ _] at hd
    injection hd with hd
    subst hd
    exact ⟨heap_alloc_new w _, hB⟩
  · rw [show (({ S with sp := up S.sp w.heap.size c } : Sto).sp x) = S.sp x from up_other _ _ e] at hd
    exact hk.sp x d hd
theorem Mem.set_ak (h : Mem B lb mq mp w S) {b : Nat} {c c' : Ak} {i : Nat} {v : Value} (hb : S.ak b = some c) (hc : (akC c).setIfInBounds i v = akC c') (hv : c'.v = c.v) (hl : c'.cl = c.cl) : Mem B lb mq mp (w.setCell ⟨b, i, none⟩ v) { S with ak := up S.ak b c' } := by
  have hg := (h.ak b c hb).1
  have far : ∀ j, j ≠ b → (w.setCell ⟨b, i, none⟩ v).heap[j]? = w.heap[j]? := fun j hj => setCell_far hj
  have same : (w.setCell ⟨b, i, none⟩ v).heap[b]? = some (.cells (akC c') 89) := by rw [heap_setCell_same w b i _ 89 v hg, hc]
  have old : ∀ x d, up S.ak b c' x = some d → ∃ d', S.ak x = some d' ∧ d.v = d'.v ∧ d.cl = d'.cl := fun x d hd => by
    by_cases e : x = b
    · subst e
      rw [up_same] at hd
      injection hd with hd
      subst hd
      exact ⟨c, hb, hv, hl⟩
    · rw [up_other _ _ e] at hd
      exact ⟨d, hd, rfl, rfl⟩
  refine ⟨(far _ (ne_ty hg h.top (by decide))).trans h.top, fun x d hd => ⟨(far _ (ne_ty hg (h.cs x d hd).1 (by decide))).trans (h.cs x d hd).1, (h.cs x d hd).2⟩, fun x d hd => ⟨(far _ (ne_ty hg (h.sp x d hd).1 (by decide))).trans (h.sp x d hd).1, (h.sp x d hd).2⟩, fun x d hd => ?_, fun x d hd => ⟨(far _ (ne_ty hg (h.ln x d hd).1 (by decide))).trans (h.ln x d hd).1, (h.ln x d hd).2⟩, fun x d hd => ?_, fun x d x' d' g hd hd' e e' => ?_, h.q.keep (far _ (h.q.apart hg).symm), h.p.keep (far _ (h.p.apart hg).symm), h.bt⟩
  · by_cases e : x = b
    · subst e
      rw [show (({ S with ak := up S.ak x c' } : Sto).ak x) = some c' from up_same _ _ _] at hd
      injection hd with hd
      subst hd
      exact ⟨same, (h.ak x c hb).2⟩
    · rw [show (({ S with ak := up S.ak b c' } : Sto).ak x) = S.ak x from up_other _ _ e] at hd
      exact ⟨(far _ e).trans (h.ak x d hd).1, (h.ak x d hd).2⟩
  · obtain ⟨d', h1, h2, h3⟩ := old x d hd
    rw [h2, h3]
    exact h.rows hg (by decide) far x d' h1
  · obtain ⟨d1, h1, h2, _⟩ := old x d hd
    obtain ⟨d2, k1, k2, _⟩ := old x' d' hd'
    rw [h2] at e
    rw [k2] at e'
    exact h.ap _ _ _ _ g h1 k1 e e'
theorem Mem.new_ak (h : Mem B lb mq mp w S) (hB : B w.heap.size) (c : Ak) (hv : c.v = .slice none 0 0) (hl : c.cl = []) : Mem B lb mq mp (w.alloc (.cells (akC c) 89)) { S with ak := up S.ak w.heap.size c } ∧ S.ak w.heap.size = none := by
  have hno : S.ak w.heap.size = none := by
    cases e : S.ak w.heap.size with
    | none => rfl
    | some d => exact absurd (lt_of (h.ak _ d e).1) (Nat.lt_irrefl _)
  have hk := h.below (below_box (.cells (akC c) 89))
  refine ⟨⟨hk.top, hk.cs, hk.sp, fun x d hd => ?_, hk.ln, fun x d hd => ?_, fun x d x' d' g hd hd' e e' => ?_, hk.q, hk.p, hk.bt⟩, hno⟩
  · by_cases e : x = w.heap.size
    · subst e
      rw [show (({ S with ak := up S.ak w.heap.size c } : Sto).ak w.heap.size) = some c from up_same _ _ _] at hd
      injection hd with hd
      subst hd
      exact ⟨heap_alloc_new w _, hB⟩
    · rw [show (({ S with ak := up S.ak w.heap.size c } : Sto).ak x) = S.ak x from up_other _ _ e] at hd
      exact hk.ak x d hd
  · by_cases e : x = w.heap.size
    · subst e
      rw [show (({ S with ak := up S.ak w.heap.size c } : Sto).ak w.heap.size) = some c from up_same _ _ _] at hd
      injection hd with hd
      subst hd
      rw [hv, hl]
      exact ⟨own_nil _ _ _ _, fun g hg => by simp [Value.ownBlock] at hg⟩
    · rw [show (({ S with ak := up S.ak w.heap.size c } : Sto).ak x) = S.ak x from up_other _ _ e] at hd
      exact hk.row x d hd
  · have old : ∀ x d g, up S.ak w.heap.size c x = some d → d.v.ownBlock = some g → S.ak x = some d := fun x d g hd hg => by
      by_cases e : x = w.heap.size
      · subst e
        rw [up_same] at hd
        injection hd with hd
        subst hd
        rw [hv] at hg
        simp [Value.ownBlock] at hg
      · rwa [up_other _ _ e] at hd
    exact hk.ap _ _ _ _ g (old x d g hd e) (old x' d' g hd' e') e e'
theorem Mem.set_ln (h : Mem B lb mq mp w S) {b : Nat} {c c' : Ln} {i : Nat} {v : Value} (hb : S.ln b = some c) (hc : (lnC c).setIfInBounds i v = lnC c') : Mem B lb mq mp (w.setCell ⟨b, i, none⟩ v) { S with ln := up S.ln b c' } := by
  have hg := (h.ln b c hb).1
  have far : ∀ j, j ≠ b → (w.setCell ⟨b, i, none⟩ v).heap[j]? = w.heap[j]? := fun j hj => setCell_far hj
  have same : (w.setCell ⟨b, i, none⟩ v).heap[b]? = some (.cells (lnC c') 130) := by rw [heap_setCell_same w b i _ 130 v hg, hc]
  refine ⟨(far _ (ne_ty hg h.top (by decide))).trans h.top, fun x d hd => ⟨(far _ (ne_ty hg (h.cs x d hd).1 (by decide))).trans (h.cs x d hd).1, (h.cs x d hd).2⟩, fun x d hd => ⟨(far _ (ne_ty hg (h.sp x d hd).1 (by decide))).trans (h.sp x d hd).1, (h.sp x d hd).2⟩, fun x d hd => ⟨(far _ (ne_ty hg (h.ak x d hd).1 (by decide))).trans (h.ak x d hd).1, (h.ak x d hd).2⟩, fun x d hd => ?_, h.rows hg (by decide) far, h.ap, h.q.keep (far _ (h.q.apart hg).symm), h.p.keep (far _ (h.p.apart hg).symm), h.bt⟩
  by_cases e : x = b
  · subst e
    rw [show (({ S with ln := up S.ln x c' } : Sto).ln x) = some c' from up_same _ _ _] at hd
    injection hd with hd
    subst hd
    exact ⟨same, (h.ln x c hb).2⟩
  · rw [show (({ S with ln := up S.ln b c' } : Sto).ln x) = S.ln x from up_other _ _ e] at hd
    exact ⟨(far _ e).trans (h.ln x d hd).1, (h.ln x d hd).2⟩
theorem Mem.new_ln (h : Mem B lb mq mp w S) (hB : B w.heap.size) (c : Ln) : Mem B lb mq mp (w.alloc (.cells (lnC c) 130)) { S with ln := up S.ln w.heap.size c } ∧ S.ln w.heap.size = none := by
  have hno : S.ln w.heap.size = none := by
    cases e : S.ln w.heap.size with
    | none => rfl
    | some d => exact absurd (lt_of (h.ln _ d e).1) (Nat.lt_irrefl _)
  have hk := h.below (below_box (.cells (lnC c) 130))
  refine ⟨⟨hk.top, hk.cs, hk.sp, hk.ak, fun x d hd => ?_, hk.row, hk.ap, hk.q, hk.p, hk.bt⟩, hno⟩
  by_cases e : x = w.heap.size
  · subst e
    rw [show (({ S with ln := up S.ln w.heap.size c } : Sto).ln w.heap.size) = some c from up_same _ _ _] at hd
    injection hd with hd
    subst hd
    exact ⟨heap_alloc_new w _, hB⟩
  · rw [show (({ S with ln := up S.ln w.heap.size c } : Sto).ln x) = S.ln x from up_other _ _ e] at hd
    exact hk.ln x d hd
theorem Mem.set_top (h : Mem B lb mq mp w S) {i : Nat} {v : Value} {fi la : Option Nat} {asked : Int} (hc : (topC mq mp S).setIfInBounds i v = topC mq mp { S with fi := fi, la := la, asked := asked }) : Mem B lb mq mp (w.setCell ⟨lb, i, none⟩ v) { S with fi := fi, la := la, asked := asked } := by
  have hg := h.top
  have far : ∀ j, j ≠ lb → (w.setCell ⟨lb, i, none⟩ v).heap[j]? = w.heap[j]? := fun j hj => setCell_far hj
  refine ⟨?_, fun x d hd => ⟨(far _ (ne_ty hg (h.cs x d hd).1 (by decide))).trans (h.cs x d hd).1, (h.cs x d hd).2⟩, fun x d hd => ⟨(far _ (ne_ty hg (h.sp x d hd).1 (by decide))).trans (h.sp x d hd).1, (h.sp x d hd).2⟩, fun x d hd => ⟨(far _ (ne_ty hg (h.ak x d hd).1 (by decide))).trans (h.ak x d hd).1, (h.ak x d hd).2⟩, fun x d hd => ⟨(far _ (ne_ty hg (h.ln x d hd).1 (by decide))).trans (h.ln x d hd).1, (h.ln x d hd).2⟩, h.rows hg (by decide) far, h.ap, h.q.keep (far _ (h.q.apart hg).symm), h.p.keep (far _ (h.p.apart hg).symm), h.bt⟩
  rw [heap_setCell_same w lb i _ 74 v hg, hc]
/-- Another map in that map's place. -/
theorem Mem.map_q (h : Mem B lb mq mp w S) {F : Ky → Option Nat} (far : ∀ j, j ≠ mq → w'.heap[j]? = w.heap[j]?) (hm : MapS w' mq (fun k => (F k).map PN)) : Mem B lb mq mp w' { S with Q := F } :=
  ⟨(far _ (h.q.apart h.top)).trans h.top, fun x d hd => ⟨(far _ (h.q.apart (h.cs x d hd).1)).trans (h.cs x d hd).1, (h.cs x d hd).2⟩, fun x d hd => ⟨(far _ (h.q.apart (h.sp x d hd).1)).trans (h.sp x d hd).1, (h.sp x d hd).2⟩, fun x d hd => ⟨(far _ (h.q.apart (h.ak x d hd).1)).trans (h.ak x d hd).1, (h.ak x d hd).2⟩, fun x d hd => ⟨(far _ (h.q.apart (h.ln x d hd).1)).trans (h.ln x d hd).1, (h.ln x d hd).2⟩, fun x d hd => ⟨own_keep (h.row x d hd).1 fun j hj => far j (by obtain ⟨cur, hc⟩ := own_in (h.row x d hd).1 hj; exact h.q.apart hc), (h.row x d hd).2⟩, h.ap, hm, h.p.keep (far _ (Ne.symm h.bt.2.2.2)), h.bt⟩
/-- Another map in that map's place. -/
theorem Mem.map_p (h : Mem B lb mq mp w S) {F : Ky → Option Nat} (far : ∀ j, j ≠ mp → w'.heap[j]? = w.heap[j]?) (hm : I.MapS w' mp (fun k => (F k).map PN)) : Mem B lb mq mp w' { S with P := F } :=
  ⟨(far _ (h.p.apart h.top)).trans h.top, fun x d hd => ⟨(far _ (h.p.apart (h.cs x d hd).1)).trans (h.cs x d hd).1, (h.cs x d hd).2⟩, fun x d hd => ⟨(far _ (h.p.apart (h.sp x d hd).1)).trans (h.sp x d hd).1, (h.sp x d hd).2⟩, fun x d hd => ⟨(far _ (h.p.apart (h.ak x d hd).1)).trans (h.ak x d hd).1, (h.ak x d hd).2⟩, fun x d hd => ⟨(far _ (h.p.apart (h.ln x d hd).1)).trans (h.ln x d hd).1, (h.ln x d hd).2⟩, fun x d hd => ⟨own_keep (h.row x d hd).1 fun j hj => far j (by obtain ⟨cur, hc⟩ := own_in (h.row x d hd).1 hj; exact h.p.apart hc), (h.row x d hd).2⟩, h.ap, h.q.keep (far _ h.bt.2.2.2), hm, h.bt⟩
/-- Cells of the store, read. -/
theorem Mem.rd_cs (h : Mem B lb mq mp w S) {b : Nat} {c : Cl} (hb : S.cs b = some c) (i : Nat) : w.cell? ⟨b, i, none⟩ = (clC c)[i]? := cell_at (h.cs b c hb).1
theorem Mem.rd_sp (h : Mem B lb mq mp w S) {b : Nat} {c : Sp} (hb : S.sp b = some c) (i : Nat) : w.cell? ⟨b, i, none⟩ = (spC c)[i]? := cell_at (h.sp b c hb).1
theorem Mem.rd_ak (h : Mem B lb mq mp w S) {b : Nat} {c : Ak} (hb : S.ak b = some c) (i : Nat) : w.cell? ⟨b, i, none⟩ = (akC c)[i]? := cell_at (h.ak b c hb).1
theorem Mem.rd_ln (h : Mem B lb mq mp w S) {b : Nat} {c : Ln} (hb : S.ln b = some c) (i : Nat) : w.cell? ⟨b, i, none⟩ = (lnC c)[i]? := cell_at (h.ln b c hb).1
theorem Mem.rd_top (h : Mem B lb mq mp w S) (i : Nat) : w.cell? ⟨lb, i, none⟩ = (topC mq mp S)[i]? := cell_at h.top
theorem Mem.fr_cs (h : Mem B lb mq mp w S) {b : Nat} {c : Cl} (hb : S.cs b = some c) (i : Nat) : w.frozen? ⟨b, i, none⟩ = false := frozen_of_heap (h.cs b c hb).1
theorem Mem.fr_sp (h : Mem B lb mq mp w S) {b : Nat} {c : Sp} (hb : S.sp b = some c) (i : Nat) : w.frozen? ⟨b, i, none⟩ = false := frozen_of_heap (h.sp b c hb).1
theorem Mem.fr_ak (h : Mem B lb mq mp w S) {b : Nat} {c : Ak} (hb : S.ak b = some c) (i : Nat) : w.frozen? ⟨b, i, none⟩ = false := frozen_of_heap (h.ak b c hb).1
theorem Mem.fr_ln (h : Mem B lb mq mp w S) {b : Nat} {c : Ln} (hb : S.ln b = some c) (i : Nat) : w.frozen? ⟨b, i, none⟩ = false := frozen_of_heap (h.ln b c hb).1
theorem Mem.fr_top (h : Mem B lb mq mp w S) (i : Nat) : w.frozen? ⟨lb, i, none⟩ = false := frozen_of_heap h.top
end
end Go.Proofs.Yteenbebpdibbcaa
