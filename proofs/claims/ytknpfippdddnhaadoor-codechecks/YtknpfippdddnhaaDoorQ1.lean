/- slices.Clone of bytes; Walk; its iterator. -/
import Derived.Test.YtknpfippdddnhaaDoorQ0
import Derived.Lib.SliceRun
import Derived.Shelf.Abstract
import Derived.OwnWalkIn
import Derived.TacticsInMore
import Derived.LoopNIn
import Derived.LoopIn
import Derived.Stop.RegionWithIn
namespace Go.Proofs.YtknpfippdddnhaaDoor
open Go.RowKit Go.Shelf
attribute [local go_sem] Oper.semAt_some
set_option maxRecDepth 100000

theorem own_empty (w : World) : (w.alloc (.cells #[] 5)).ownsRow w.heap.size 5 1 (.slice (some ⟨w.heap.size, 0, none⟩) 0 0) 0 (([] : List Int).flatMap yC) := by
  refine ⟨rfl, .inr ⟨w.heap.size, 0, #[], rfl, Nat.le_refl _, heap_alloc_new w _, Nat.le_refl _, by decide, rfl, rfl⟩⟩
set_option maxHeartbeats 400000 in
/-- slices.Clone of bytes. -/
theorem clone_any {w : World} {v : Value} {l : List Int} (hs : SeesL yC 1 w v l) (hm : l.length ≤ 140737488355328) :
    Calls Tryd.prog 47 #[v] w fun e w' => ∃ x, e = .returned x ∧ w'.ownsRow w.heap.size 5 1 x l.length (l.flatMap yC) ∧ Below w.heap.size w w' := by
  obtain ⟨ao, cap, gb, ob, rfl, h2, h3, h4, h5, h6⟩ := id hs
  have hE := fun (w : World) a n c => Lib.run_eql_slice_nil (P := Tryd.prog) w 22 5 a n c 0 0 Tryd.underlying22
  cases ao with
  | none =>
    obtain rfl := h4 rfl
    obtain rfl : l = [] := List.length_eq_zero_iff.1 (by omega)
    clear hs h5 h6
    go_enter Tryd.func47, Tryd.ntmps47
    go_wp2
    go_ret
    exact ⟨_, rfl, own_nil _ _ _ _, Below.refl _ _⟩
  | some ad =>
    obtain ⟨ao, cp, w', h1, ho, hb⟩ := rtY.app (base := w.heap.size) 22 (own_empty w) (hs.below yC_len (below_box (.cells #[] 5))) (by omega) (by omega) (by simp)
    have HB : Hid (Below w.heap.size w w') := (below_box _).trans hb
    have HO := hide ho
    have H1 := hide h1
    generalize l.length = n at *
    clear hs h5 h6 h4 ho h1 hb
    go_enter Tryd.func47, Tryd.ntmps47
    go_wp2_with ((with_reducible show wpList _ _ _ (⟨some 7, _, _, _, _, _⟩ :: _) _ _); refine wpList_append_wanted (by rfl) _ _ 22 rfl rfl rfl (unhide H1) ?_)
    go_ret
    have ho := unhide HO
    rw [Nat.zero_add, List.nil_append] at ho
    exact ⟨_, rfl, ho, unhide HB⟩
/-- What Walk hands out, and where its bytes lie. -/
def WkAt (N : Nat) (w : World) (bx : Nat) (l : List Int) : Prop := N ≤ bx ∧ ∃ v, w.heap[bx]? = some (.cells #[v] 22) ∧ w.ownsRow N 5 1 v l.length (l.flatMap yC)
abbrev WkF (bx : Nat) : Value := .func (Fn.func 48) #[] #[.pointer (some ⟨bx, 0, none⟩)]
set_option maxHeartbeats 400000 in
theorem walk_any {w : World} {v : Value} {l : List Int} (hs : SeesL yC 1 w v l) (hm : l.length ≤ 140737488355328) :
    Calls Tryd.prog 17 #[v] w fun e w' => ∃ bx, e = .returned (WkF bx) ∧ WkAt w.heap.size w' bx l ∧ Below w.heap.size w w' := by
  have hmf : ∀ (fn : Fn) (first cap : Array Value) (w : World), (Instr.makeFunc fn first cap).run Tryd.prog w = .ok (.func fn first cap) w := fun _ _ _ _ => rfl
  have HC := hide (clone_any (hs.below yC_len (below_box (.cells #[v] 22))) hm)
  obtain ⟨ao, cap, rfl⟩ := hs.shape
  clear hs
  generalize l.length = n at *
  go_enter Tryd.func17, Tryd.ntmps17
  go_wp2_with (go_at_call 47; refine (unhide HC).mono ?_; rintro e z ⟨x, rfl, ho, hb⟩; have hz := (hb.block w.heap.size (by simp)).trans (heap_alloc_new w _); have hz0 := cell_at (o := 0) hz; have hz1 := frozen_of_heap (o := 0) hz; obtain ⟨ax, cx, rfl⟩ := own_shape ho; have HZ := hide hz; have HO := hide ho; have HB := hide hb; clear hz ho hb)
  go_ret
  obtain ⟨rfl, -⟩ := own_sees yC_len (by decide) (unhide HO)
  refine ⟨w.heap.size, rfl, ⟨Nat.le_refl _, _, one_setCell (unhide HZ), ?_⟩, ?_⟩
  · exact own_mono (ownsRow_setCell_below (unhide HO) (a := ⟨w.heap.size, 0, none⟩) (by simp) _) (by simp)
  · exact ((below_box _).trans ((unhide HB).mono (by simp))).setCell (Nat.le_refl _) _
def encW (x : Ins) : Array Value := #[.int .i64 x.ad, iW x]
def wkL (l : List Int) : List Ins := (wkR l 0).1
set_option maxHeartbeats 1600000 in
theorem walk1_in (n lp bx : Nat) (v : Value) (l : List Int) (hby : Byt l) (hm : l.length ≤ 4611686018427387900) (b : Nat → Prop) (J Jx : List Ins → World → Prop)
    (hJ : ∀ s A B, J s A → Below A.heap.size A B → J s B)
    (hY : ∀ pre x W1, J pre W1 → (∃ r, pre ++ x :: r = wkL l) → YieldAt Fence.wide (n - 1) Tryd.prog lp (encW x) W1 fun e W' => (e = .returned (.bool true) ∧ J (pre ++ [x]) W' ∧ Keepb b W1 W') ∨ (e = .returned (.bool false) ∧ Jx (pre ++ [x]) W'))
    (W : World) (hT : ∀ z, Keepb b W z → Tab z) (hc : ∀ z, Keepb b W z → z.cell? ⟨bx, 0, none⟩ = some v) (hs : ∀ z, Keepb b W z → SeesL yC 1 z v l) (hb : ∀ k, b k → k < W.heap.size) (hj0 : J [] W) :
    CallsIn Fence.wide n Tryd.prog 48 #[.func (.yield lp) #[] #[], .pointer (some ⟨bx, 0, none⟩)] W fun e W' => (∃ v, e = .returned v) ∧ ((∃ xs, xs = wkL l ∧ J xs W') ∨ ∃ pre, Jx pre W') := by
  refine callsIn_of_wp Tryd.func48 rfl trivial ?_ rfl
  simp only [Tryd.ntmps48, List.size_toArray, List.length_cons, List.length_nil, Nat.reduceAdd, Nat.reduceSub, Array.replicate_succ, Array.replicate_zero, List.push_toArray, List.append_toArray, List.nil_append, List.cons_append]
  have HY := hide hY
  have HT := hide hT
  have HC := hide hc
  have HS := hide hs
  have HJ := hide hJ
  obtain ⟨va, vc, hv⟩ := (hs W (Keepb.refl _ _)).shape
  have HB := hide hb
  have HV := hide hv
  have HBY := hide hby
  clear hY hT hc hs hJ hb hv hby
  gi_wp2
  gi_loopw [3] (fun i wr => ∃ p pre, Rl l p pre ∧ i = .int .i64 (p : Nat) ∧ J pre wr ∧ Keepb b W wr) (fun i _ => l.length + 1 - (intOf i).toNat)
  case atStart => exact ⟨0, [], Rl.start l, rfl, hj0, Keepb.refl _ _⟩
  case round =>
    obtain ⟨p, pre, hR, rfl, hj, hk⟩ := hrel
    have hone := (callsIn_wide (n := n - 1)).2 (one_any (p : Int) (unhide HT wr hk) (unhide HS wr hk) (unhide HBY) hm)
    have hc := unhide HC wr hk
    have hp := hR.hp
    clear hj0
    by_cases h0 : oneE l p = 0
    · have hst := hR.step h0
      have hsA := sA_pos h0
      have hN : oneN l p = ((p + sA l p : Nat) : Int) := by unfold oneN; rw [if_pos h0, Int.toNat_natCast]; omega
      have hX : oneX l p = rd l p := oneX_ok h0
      have hr : ∃ r, pre ++ rd l p :: r = wkL l := ⟨(wkR l (p + sA l p)).1, by unfold wkL; rw [hR.wk, wkR_yes h0]⟩
      rw [h0, hN, hX] at hone
      have hxd : (rd l p).ad = p := rfl
      have hpp : p < p + sA l p := by omega
      generalize p + sA l p = p' at *
      generalize rd l p = x at *
      have HON := hide hone
      have HR := hide hst
      have HRR := hide hr
      have HK := hide hk
      have HJJ := hide hj
      clear hone hst hr hk hj hR hN hX h0
      obtain ⟨xd, xo, xa, xb, xm⟩ := x
      obtain rfl : xd = p := hxd
      gi_wp2_with fail
      refine ⟨trivial, (fun h => by cases h), (unhide HON).mono ?_⟩
      rintro e z ⟨rfl, hbz⟩
      have hbx : Below z.heap.size z (z.alloc (.cells #[.int .i64 (p : Int), .int .i64 xo, .int .i64 xa, .int .i64 xb, .int .i64 xm] 28)) := below_box _
      have hby : Below wr.heap.size wr (z.alloc (.cells #[.int .i64 (p : Int), .int .i64 xo, .int .i64 xa, .int .i64 xb, .int .i64 xm] 28)) := hbz.trans (hbx.mono hbz.size)
      obtain ⟨fn, tmps, assign, body, hyy, hRn⟩ := (unhide HY) pre ⟨p, xo, xa, xb, xm⟩ _ (unhide HJ _ _ _ (unhide HJJ) hby) (unhide HRR)
      have HKZ := hide ((unhide HK).trans (keepb_below (b := b) hby (fun k hk => Nat.lt_of_lt_of_le (unhide HB k hk) (unhide HK).size)))
      unfold encW at hyy
      clear hbz hbx hby hc
      gi_wp2
      refine ⟨fun h => (by cases h), hRn.mono ?_⟩
      rintro e W3 (⟨rfl, hJ3, hk3⟩ | ⟨rfl, hJx3⟩)
      · have HJ3 := hide (And.intro hJ3 hk3)
        clear hJ3 hk3
        gi_wp2
        go_roundw
        case rel => exact ⟨p', _, unhide HR, rfl, (unhide HJ3).1, (unhide HKZ).trans (unhide HJ3).2⟩
        case measure => simp [intOf]; omega
      · gi_wp2
        refine bodyPost_ret (results_none rfl _ _ _) rfl ?_
        exact ⟨⟨_, rfl⟩, .inr ⟨_, hJx3⟩⟩
    · have hst : pre = wkL l := by
        unfold wkL
        by_cases hlt : p < l.length
        · rw [hR.stop hlt h0]
        · rw [hR.done (by omega)]
      have hne : (oneE l p != 0) = true := by simpa using h0
      generalize oneE l p = er at *
      have HON := hide hone
      have HST := hide hst
      have HJJ := hide hj
      clear hone hst hj hR h0 hk
      generalize oneX l p = x at *
      obtain ⟨xd, xo, xa, xb, xm⟩ := x
      gi_wp2_with fail
      refine ⟨trivial, (fun h => by cases h), (unhide HON).mono ?_⟩
      rintro e z ⟨rfl, hbz⟩
      have hby : Below wr.heap.size wr (z.alloc (.cells #[.int .i64 xd, .int .i64 xo, .int .i64 xa, .int .i64 xb, .int .i64 xm] 28)) := hbz.trans ((below_box _).mono hbz.size)
      have HJF := hide (unhide HJ _ _ _ (unhide HJJ) hby)
      clear hbz hby hc
      gi_wp2
      refine ⟨(fun f h => by cases h), ?_⟩
      gi_wp2
      refine bodyPost_ret (results_none rfl _ _ _) rfl ?_
      exact ⟨⟨_, rfl⟩, .inl ⟨_, unhide HST, unhide HJF⟩⟩
end Go.Proofs.YtknpfippdddnhaaDoor
