/- Several texts as one. -/
import Derived.Test.YtdcmkapfcmibeaaDoorPM
import Derived.Test.YtdcmkapfcmibeaaDoorLL
import Derived.Shelf.Abstract
import Derived.OwnWalkIn
import Derived.TacticsInMore
import Derived.LoopNIn
import Derived.LoopIn
import Derived.Stop.RegionWithIn

/- below, made, behind. -/
namespace Go.Proofs.YtdcmkapfcmibeaaDoor
open Go.RowKit Go.Shelf
attribute [local go_sem] Oper.semAt_some
set_option maxRecDepth 100000

def keyA (k : Int × Int) : Value := .agg #[.int .i32 k.1, .int .i64 k.2]

theorem below_any (a0 a1 b0 b1 : Int) (w : World) :
    Calls Tryd.prog 46 #[.agg #[.int .i32 a0, .int .i64 a1], .agg #[.int .i32 b0, .int .i64 b1]] w fun e w' => e = .returned (.bool (decide (ltK (a0, a1) (b0, b1)))) ∧ Grew w w' := by
  have HC := hide (compare_any a0 a1 b0 b1)
  obtain ⟨c, hc⟩ : ∃ c, cmpK (a0, a1) (b0, b1) = c := ⟨_, rfl⟩
  have hd : decide (ltK (a0, a1) (b0, b1)) = decide (c < 0) := by rw [← hc]; exact decide_eq_decide.2 (cmpK_neg _ _).symm
  rw [hd]
  have HG := hide (grew_alloc (grew_alloc (grew_refl w) (.cells #[.int .i32 a0, .int .i64 a1] 30)) (.cells #[.int .i32 b0, .int .i64 b1] 30))
  have HH := hide hc
  clear hd hc
  go_enter Tryd.func46, Tryd.ntmps46
  go_wp2_with (go_at_call 69; refine (unhide HC _).mono ?_; rintro e w' ⟨rfl, hg⟩; have HG2 := hide hg; clear hg; rw [unhide HH])
  go_ret
  exact ⟨rfl, grew_trans (unhide HG) (unhide HG2)⟩

theorem made_yes (sb hd : Nat) (w : World) (h : w.cell? ⟨sb, 0, none⟩ = some (PN hd)) : Calls Tryd.prog 53 #[PN sb] w fun e w' => e = .returned (.bool true) ∧ w = w' := by
  go_enter Tryd.func53, Tryd.ntmps53
  go_wp2
  go_ret
  exact ⟨rfl, rfl⟩
theorem made_nil (w : World) : Calls Tryd.prog 53 #[nilP] w fun e w' => e = .returned (.bool false) ∧ w = w' := by
  go_enter Tryd.func53, Tryd.ntmps53
  go_wp2
  go_ret
  exact ⟨rfl, rfl⟩
theorem made_zero (sb : Nat) (w : World) (h : w.cell? ⟨sb, 0, none⟩ = some nilP) : Calls Tryd.prog 53 #[PN sb] w fun e w' => e = .returned (.bool false) ∧ w = w' := by
  go_enter Tryd.func53, Tryd.ntmps53
  go_wp2
  go_ret
  exact ⟨rfl, rfl⟩

/-- What behind hands back. -/
abbrev It (b : Nat) : Value := .func (.func 84) #[] #[PN b, PN (b + 1)]
theorem behind_any (q : Nat) (lev : Int) (w : World) :
    Calls Tryd.prog 74 #[PN q, .int .i64 lev] w fun e w' => e = .returned (It w.heap.size) ∧ w' = (w.alloc (.cells #[PN q] 71)).alloc (.cells #[.int .i64 lev] 3) := by
  go_enter Tryd.func74, Tryd.ntmps74
  go_wp2
  go_ret
  exact ⟨rfl, rfl⟩
end Go.Proofs.YtdcmkapfcmibeaaDoor

/- The iterator of behind: it goes through the nodes of a level that follow one. -/
namespace Go.Proofs.YtdcmkapfcmibeaaDoor
open Go.RowKit Go.Shelf
attribute [local go_sem] Oper.semAt_some
set_option maxRecDepth 100000

/-- The blocks of b are as they were. -/
structure Keepb (b : Nat → Prop) (A B : World) : Prop where
  size : A.heap.size ≤ B.heap.size
  block : ∀ k, b k → B.heap[k]? = A.heap[k]?
theorem Keepb.refl (b : Nat → Prop) (A : World) : Keepb b A A := ⟨Nat.le_refl _, fun _ _ => rfl⟩
theorem Keepb.trans {b : Nat → Prop} {A B C : World} (h : Keepb b A B) (k : Keepb b B C) : Keepb b A C := ⟨Nat.le_trans h.size k.size, fun i hi => (k.block i hi).trans (h.block i hi)⟩
theorem Keepb.drew {b : Nat → Prop} {A : World} : Keepb b A A.drew := ⟨Nat.le_refl _, fun _ _ => rfl⟩
theorem Keepb.cell {b : Nat → Prop} {A B : World} (h : Keepb b A B) {p : Addr} (hp : b p.block) : B.cell? p = A.cell? p := World.cell?_of_block (w := A) (h.block p.block hp)

def onL (lev : Nat) (R : List Nd) : List Nd := R.filter fun n => decide (lev < n.h)
theorem onL_high {lev : Nat} {R : List Nd} {n : Nd} (h : n ∈ onL lev R) : n ∈ R ∧ lev < n.h := by
  have := List.mem_filter.1 h; exact ⟨this.1, by simpa using this.2⟩
theorem Lk.onL {N : Nat → Nat → Value} {lev q : Nat} {R : List Nd} (h : Lk N lev q R) : Lk N lev q (onL lev R) := by
  induction R generalizing q with
  | nil => exact h
  | cons n r ih =>
    rw [Lk] at h
    by_cases c : lev < n.h
    · rw [if_pos c] at h
      have e : YtdcmkapfcmibeaaDoor.onL lev (n :: r) = n :: YtdcmkapfcmibeaaDoor.onL lev r := by simp [YtdcmkapfcmibeaaDoor.onL, c]
      rw [e, Lk, if_pos c]
      exact ⟨h.1, ih h.2⟩
    · rw [if_neg c] at h
      have e : YtdcmkapfcmibeaaDoor.onL lev (n :: r) = YtdcmkapfcmibeaaDoor.onL lev r := by simp [YtdcmkapfcmibeaaDoor.onL, c]
      rw [e]
      exact ih h.2
def blkOf : Value → Option Nat | .pointer (some a) => some a.block | _ => none
def left (F : List Nd) (v : Value) : Nat := (F.dropWhile fun m => decide (some m.p ≠ blkOf v)).length
theorem left_nil (F : List Nd) : left F nilP = 0 := by
  unfold left
  induction F with
  | nil => rfl
  | cons a r ih => rw [List.dropWhile_cons_of_pos (by simp [blkOf])]; exact ih
theorem left_at {pre B : List Nd} {m : Nd} (h : ∀ n ∈ pre, n.p ≠ m.p) : left (pre ++ m :: B) (PN m.p) = B.length + 1 := by
  unfold left
  induction pre with
  | nil => simp [blkOf]
  | cons a r ih =>
    have ha : a.p ≠ m.p := h a List.mem_cons_self
    rw [List.cons_append, List.dropWhile_cons_of_pos (by simp [blkOf, ha])]
    exact ih fun n hn => h n (List.mem_cons_of_mem _ hn)
theorem fstP_high {lev : Nat} {m : Nd} {B : List Nd} (h : lev < m.h) : fstP lev (m :: B) = PN m.p := by rw [fstP, if_pos h]

set_option maxHeartbeats 1000000 in
theorem behind1_in (n l bx lev q : Nat) (hl : lev < 8) (F : List Nd) (N : Nat → Nat → Value) (b : Nat → Prop) (J Jx : List Nd → World → Prop) (W : World)
    (hJ : ∀ s A, J s A → J s A.drew)
    (hY : ∀ pre x W1, J pre W1 → (∃ r, pre ++ x :: r = F) → YieldAt Fence.wide (n - 1) Tryd.prog l #[PN x.p] W1 fun e W' => (e = .returned (.bool true) ∧ J (pre ++ [x]) W' ∧ Keepb b W1 W') ∨ (e = .returned (.bool false) ∧ Jx (pre ++ [x]) W'))
    (hF : ∀ m ∈ F, lev < m.h) (hd : (F.map (·.p)).Nodup) (hk : Lk N lev q F)
    (c0 : W.cell? ⟨bx, 0, none⟩ = some (PN q)) (c1 : W.cell? ⟨bx + 1, 0, none⟩ = some (.int .i64 lev)) (cq : W.cell? ⟨q, 5 + lev, none⟩ = some (N q lev)) (cF : ∀ m ∈ F, W.cell? ⟨m.p, 5 + lev, none⟩ = some (N m.p lev))
    (b1 : b (bx + 1)) (bF : ∀ m ∈ F, b m.p) (hj0 : J [] W) :
    CallsIn Fence.wide n Tryd.prog 84 #[.func (.yield l) #[] #[], PN bx, PN (bx + 1)] W fun e W' => (∃ v, e = .returned v) ∧ ((∃ xs, xs = F ∧ J xs W') ∨ ∃ pre, Jx pre W') := by
  refine callsIn_of_wp Tryd.func84 rfl trivial ?_ rfl
  simp only [Tryd.ntmps84, List.size_toArray, List.length_cons, List.length_nil, Nat.reduceAdd, Nat.reduceSub, Array.replicate_succ, Array.replicate_zero, List.push_toArray, List.append_toArray, List.nil_append, List.cons_append]
  have h0 : (0 : Int) ≤ (lev : Int) := by omega
  have h8 : (lev : Int) < 8 := by omega
  have HY := hide hY
  have HF := hide cF
  have hq : N q lev = fstP lev F := hk.first
  rw [hq] at cq
  obtain ⟨x0, hx0⟩ : ∃ x0, fstP lev F = x0 := ⟨_, rfl⟩
  rw [hx0] at cq
  clear hY cF hq
  gi_wp2
  gi_region
  gi_wp2
  gi_loopw [4] (fun x wr => ∃ pre B, F = pre ++ B ∧ x = fstP lev B ∧ J pre wr ∧ Keepb b W wr) (fun x _ => left F x)
  case atStart => exact ⟨[], F, rfl, hx0.symm, hJ _ _ hj0, Keepb.drew⟩
  case round =>
    obtain ⟨pre, B, hB, rfl, hj, hkp⟩ := hrel
    clear cq c0 hx0 hj0
    have d1 : wr.cell? ⟨bx + 1, 0, none⟩ = some (.int .i64 lev) := (hkp.cell (p := ⟨bx + 1, 0, none⟩) b1).trans c1
    cases B with
    | nil =>
      rw [show fstP lev [] = nilP from rfl]
      gi_wp2
      go_end0
      rw [List.append_nil] at hB
      exact ⟨⟨_, rfl⟩, .inl ⟨_, hB.symm, hj⟩⟩
    | cons m r =>
      have hm : m ∈ F := by rw [hB]; simp
      have hmh := hF m hm
      rw [fstP_high hmh]
      have hnext : N m.p lev = fstP lev r := by
        have := hk
        rw [hB] at this
        have := this.rest
        rw [Lk, if_pos hmh] at this
        exact this.2.first
      have hcm := (unhide HF) m hm
      rw [hnext] at hcm
      obtain ⟨y, hy⟩ : ∃ y, fstP lev r = y := ⟨_, rfl⟩
      rw [hy] at hcm
      have HX := hide hy
      have HB := hide hB
      have HK := hide hkp
      have HM := hide hm
      have hleft : left F (PN m.p) = r.length + 1 := by
        rw [hB]
        refine left_at fun n hn => ?_
        rw [hB, List.map_append, List.map_cons] at hd
        exact (List.nodup_append.1 hd).2.2 _ (List.mem_map.2 ⟨n, hn, rfl⟩) _ List.mem_cons_self
      have HL := hide hleft
      have hleft2 : left F y < r.length + 1 := by
        rw [← hy]
        cases r with
        | nil => rw [show fstP lev [] = nilP from rfl, left_nil]; simp
        | cons m2 r2 =>
          have hm2 : m2 ∈ F := by rw [hB]; simp
          rw [fstP_high (hF m2 hm2), hB]
          have e : pre ++ m :: m2 :: r2 = (pre ++ [m]) ++ m2 :: r2 := by simp
          rw [e, left_at, List.length_cons]
          · omega
          · intro n hn
            rw [hB, e, List.map_append, List.map_cons] at hd
            exact (List.nodup_append.1 hd).2.2 _ (List.mem_map.2 ⟨n, hn, rfl⟩) _ List.mem_cons_self
      have HL2 := hide hleft2
      obtain ⟨fn, tmps, assign, body, hyy, hR⟩ := (unhide HY) pre m wr hj ⟨r, hB.symm⟩
      clear hy hB hkp hm hleft hleft2 hnext hj hmh hF hk hd
      gi_wp2
      refine ⟨fun h => (by cases h), hR.mono ?_⟩
      rintro e W3 (⟨rfl, hJ3, hk3⟩ | ⟨rfl, hJx3⟩)
      · have hk4 : Keepb b W W3 := (unhide HK).trans hk3
        have e1 : W3.cell? ⟨bx + 1, 0, none⟩ = some (.int .i64 lev) := (hk4.cell (p := ⟨bx + 1, 0, none⟩) b1).trans c1
        have e2 : W3.cell? ⟨m.p, 5 + lev, none⟩ = some y := (hk4.cell (p := ⟨m.p, 5 + lev, none⟩) (bF m (unhide HM))).trans hcm
        have HJ3 := hide hJ3
        have HK4 := hide hk4
        clear hJ3 hk3 hk4 d1 hcm c1
        gi_wp2
        gi_region
        gi_wp2
        go_roundw
        case rel => exact ⟨pre ++ [m], r, by rw [unhide HB]; simp, (unhide HX).symm, hJ _ _ (unhide HJ3), (unhide HK4).trans Keepb.drew⟩
        case measure => rw [unhide HL]; exact unhide HL2
      · gi_wp2
        refine bodyPost_ret (results_none rfl _ _ _) rfl ?_
        exact ⟨⟨_, rfl⟩, .inr ⟨_, hJx3⟩⟩
end Go.Proofs.YtdcmkapfcmibeaaDoor

/- Marks among the deferred calls; a range over what follows a node, in a world of which two boxes alone may turn. -/
namespace Go.Proofs.YtdcmkapfcmibeaaDoor
open Go.RowKit Go.Shelf
attribute [local go_sem] Oper.semAt_some
set_option maxRecDepth 100000

theorem grownBy_drew (A : World) : A.grownBy A.drew none := ⟨rfl, rfl, rfl, Nat.le_refl _, fun _ _ _ => rfl⟩
theorem OwnFrom.drew {β : Type} {N : Nat} {I : β → World → Prop} (h : OwnFrom N I) {s : β} {A : World} (hs : I s A) : I s A.drew := h s A _ none hs (grownBy_drew A) (fun r e => by cases e)
theorem ownFrom_cell {β : Type} (N : Nat) (p : Addr) (v : β → Value) : OwnFrom N (fun (s : β) (W : World) => W.cell? p = some (v s)) := fun _ _ _ _ hs hg hr => cell_kept hs hg (fun r e => (hr r e).2)
theorem ownFrom_frozen {β : Type} (N : Nat) (p : Addr) (v : β → Value) : OwnFrom N (fun (s : β) (W : World) => W.cell? p = some (v s) ∧ W.frozen? p = false) := fun _ _ _ _ hs hg hr =>
  ⟨cell_kept hs.1 hg (fun r e => (hr r e).2), (frozen_kept hs.1 hg (fun r e => (hr r e).2)).trans hs.2⟩
theorem ownFrom_upd {β : Type} {S : Nat → Prop} {B : Nat} {w0 : World} (hB : B ≤ w0.heap.size) : OwnFrom B (fun (_ : β) W => Upd S B w0 W) := fun _ _ _ _ hs hg hr =>
  hs.trans ⟨hg.os, hg.tape, hg.output, hg.size, fun k hk _ => hg.block k (by have := hs.size; omega) fun e => by have := (hr k e.symm).1; omega⟩

/-- The marks that ranges have left behind. -/
structure Marks (ds : List Deferred) (w : World) : Prop where
  all : ∀ d ∈ ds, ∃ D, d = { target := .collected D, args := #[] } ∧ w.heap[D]? = some (.deferred (some []))
  nodup : ds.Nodup
def isMark (ds : List Deferred) (k : Nat) : Prop := { target := .collected k, args := #[] } ∈ ds
theorem Marks.nil (w : World) : Marks [] w := ⟨fun d h => (by cases h), List.nodup_nil⟩
theorem Marks.keep {ds : List Deferred} {w w' : World} (h : Marks ds w) (hk : ∀ k, isMark ds k → w'.heap[k]? = w.heap[k]?) : Marks ds w' :=
  ⟨fun d hd => by obtain ⟨D, rfl, hD⟩ := h.all d hd; exact ⟨D, rfl, (hk D hd).trans hD⟩, h.nodup⟩
theorem Marks.at {ds : List Deferred} {w : World} (h : Marks ds w) {k : Nat} (hk : isMark ds k) : w.heap[k]? = some (.deferred (some [])) := by
  obtain ⟨D, e, hD⟩ := h.all _ hk
  simp only [Deferred.mk.injEq, Target.collected.injEq, and_true] at e
  rw [e]; exact hD
theorem Marks.lt {ds : List Deferred} {w : World} (h : Marks ds w) {k : Nat} (hk : isMark ds k) : k < w.heap.size := (Array.getElem?_eq_some_iff.1 (h.at hk)).1
theorem Marks.cons {ds : List Deferred} {w : World} {D : Nat} (h : Marks ds w) (hD : w.heap[D]? = some (.deferred (some []))) (hn : ¬ isMark ds D) : Marks ({ target := .collected D, args := #[] } :: ds) w :=
  ⟨fun d hd => by rcases List.mem_cons.1 hd with rfl | hd; exact ⟨D, rfl, hD⟩; exact h.all d hd, List.nodup_cons.2 ⟨hn, h.nodup⟩⟩
theorem leave_marks {F : Fence} {n : Nat} {P : Program} {fn : Func} {tmps : Array Value} {R : Ending → World → Prop} {ds : List Deferred} {w : World} (h : Marks ds w)
    (hf : ∀ w', Upd (isMark ds) w.heap.size w w' → LeavesInM F n P fn tmps R [] .returning w') : LeavesInM F n P fn tmps R ds .returning w := by
  induction ds generalizing w with
  | nil => exact hf w (Upd.refl _ _ _)
  | cons d ds ih =>
    obtain ⟨D, rfl, hD⟩ := h.all d List.mem_cons_self
    have hl := (Array.getElem?_eq_some_iff.1 hD).1
    refine ⟨by simp, .inl ⟨D, _, rfl, run_takeDeferred hD, ih ⟨fun e he => ?_, (List.nodup_cons.1 h.nodup).2⟩ fun w' hw => hf w' ?_⟩⟩
    · obtain ⟨D', rfl, hD'⟩ := h.all e (List.mem_cons_of_mem _ he)
      refine ⟨D', rfl, (World.putObj_heap_other ?_).trans hD'⟩
      rintro rfl
      exact (List.nodup_cons.1 h.nodup).1 he
    · refine ⟨hw.os, hw.tape, hw.output, ?_, fun k hk hn => ?_⟩
      · have := hw.size
        simpa [World.putObj] using this
      · refine (hw.block k (by simpa [World.putObj] using hk) fun c => hn (List.mem_cons_of_mem _ c)).trans (World.putObj_heap_other ?_)
        rintro rfl
        exact hn List.mem_cons_self

def OkF (F : List Nd) (pre : List Nd) (x : Nd) : Prop := ∃ r, pre ++ x :: r = F
theorem behind_seq (n bx lev q : Nat) (hl : lev < 8) (R : List Nd) (N : Nat → Nat → Value) (b : Nat → Prop) (w : World) (hd : (R.map (·.p)).Nodup) (hk : Lk N lev q R)
    (c0 : w.cell? ⟨bx, 0, none⟩ = some (PN q)) (c1 : w.cell? ⟨bx + 1, 0, none⟩ = some (.int .i64 lev)) (cq : w.cell? ⟨q, 5 + lev, none⟩ = some (N q lev)) (cF : ∀ m ∈ R, w.cell? ⟨m.p, 5 + lev, none⟩ = some (N m.p lev))
    (b1 : b (bx + 1)) (bF : ∀ m ∈ R, b m.p) :
    SeqOk Fence.wide n Tryd.prog 84 #[PN bx, PN (bx + 1)] (fun m : Nd => #[PN m.p]) (OkF (onL lev R)) (Keepb b) (fun xs => xs = onL lev R) w := fun l J Jx W hW hJ hY hj0 => by
  have up : ∀ {p : Addr} {v : Value}, w.cell? p = some v → W.cell? p = some v := fun {p v} h => (hW.cell (p := p) (World.block_lt_of_cell? w _ h)).trans h
  refine behind1_in n l bx lev q hl (onL lev R) N b J Jx W (fun s A h => OwnFrom.drew hJ h) hY (fun m hm => (onL_high hm).2) ?_ hk.onL (up c0) (up c1) (up cq) (fun m hm => up (cF m (onL_high hm).1)) b1 (fun m hm => bF m (onL_high hm).1) hj0
  exact hd.sublist (List.filter_sublist.map _)
end Go.Proofs.YtdcmkapfcmibeaaDoor
