/- Several texts as one. -/
import Derived.Test.YtibjhjkeflbghaaL0
import Derived.Lib.AppendZerosOnto
import Derived.OwnWalk

/- slices.Grow of nothing, slices.Concat of two lists of keys. -/
namespace Go.Proofs.Ytibjhjkeflbghaa
open Go.RowKit
set_option maxRecDepth 100000

theorem wpList_append_run {P : Program} {w w' : World} {ops : Array Oper} {rest : List Oper} {o : Oper} {a : Act} {Q : Exit → Act → World → Prop} (hg : o.guard = none) (s x : Operand) (t u : TypeId)
    (ho : o.op = .call { callee := .builtin .append, args := #[s, x], argTypes := #[t, u] }) {v sv v' : Value} (hs : a.eval s = v) (hx : a.eval x = sv) (hr : (Builtin.append_ #[t, u] o.type #[v, sv]).run P w = .ok v' w')
    (h : wpList P ops Q rest (a.put o.dst v') w') : wpList P ops Q (o :: rest) a w := by
  refine wpList_plain hg fun K hK => ?_
  unfold Oper.wp
  simp [execOp, ho, resolve, invoke, builtin, hs, hx, hr, Result.andThen]
  exact hK _ _ h
theorem own_empty {w : World} (n c : Nat) (hc : n ≤ c) (hm : c ≤ maxLen) : (w.drew.alloc (.cells (([] : List Value).toArray ++ Builtin.zeroCells (Value.agg #[.int .i32 0, .int .i64 0]).cells n ++ Builtin.zeroCells (Value.agg #[.int .i32 0, .int .i64 0]).cells (c - n)) 37)).ownsRow w.heap.size 37 2 (.slice (some ⟨w.heap.size, 0, none⟩) 0 c) 0 [] := by
  refine ⟨rfl, .inr ⟨w.heap.size, c, _, rfl, Nat.le_refl _, heap_alloc_new w.drew _, Nat.zero_le _, hm, ?_, by simp⟩⟩
  simp [size_zeroCells, Value.cells]
  omega

set_option maxHeartbeats 800000 in
theorem grow_nil (n : Nat) (w : World) (hn : n ≤ 8796093022208) :
    Calls Try.prog 56 #[.slice none 0 0, .int .i64 n] w fun e w' => ∃ v, e = .returned v ∧ w'.ownsRow w.heap.size 37 2 v 0 [] ∧ Below w.heap.size w w' := by
  obtain ⟨i0, hi, hz0, hz1, hz2⟩ := info_parts Try.info37
  by_cases h0 : n = 0
  · subst h0
    go_enter Try.func56, Try.ntmps56
    go_wp2
    go_ret
    exact ⟨_, rfl, own_nil _ _ _ _, Below.refl _ _⟩
  · have hge := grownCap_ge w n 0 37
    have hcm := grownCap_le_maxLen w n 0 37 (by unfold maxLen; omega)
    have hr := Lib.run_append_grow_zeros (P := Try.prog) w 24 3 24 37 i0 (.agg #[.int .i32 0, .int .i64 0]) .i64 .i64 Try.underlying24 Try.underlying3 hi hz0 none 0 0 [] (run_firstCells_none w.drew i0.size 0 0 0) n (by omega) (by rw [hz1]; decide) (by omega) (by omega) (by rw [hz2]; omega) (by rw [hz2]; exact growslice_fits (by omega) (by omega))
    simp only [Nat.zero_add] at hr
    have HO := hide (own_empty (w := w) n (grownCap w n 0 37) hge hcm)
    have HB : Hid (Below w.heap.size w (w.drew.alloc (.cells (([] : List Value).toArray ++ Builtin.zeroCells (Value.agg #[.int .i32 0, .int .i64 0]).cells n ++ Builtin.zeroCells (Value.agg #[.int .i32 0, .int .i64 0]).cells (grownCap w n 0 37 - n)) 37))) := ((Below.refl _ _).drew).alloc (Nat.le_refl _) _
    generalize grownCap w n 0 37 = c at *
    generalize w.drew.alloc (.cells (([] : List Value).toArray ++ Builtin.zeroCells (Value.agg #[.int .i32 0, .int .i64 0]).cells n ++ Builtin.zeroCells (Value.agg #[.int .i32 0, .int .i64 0]).cells (c - n)) 37) = w1 at *
    go_enter Try.func56, Try.ntmps56
    have hr' := hide hr
    clear hr
    go_wp2_with (at_builtin; refine wpList_append_run rfl _ _ 24 3 rfl rfl rfl (unhide hr') ?_)
    go_ret
    exact ⟨_, rfl, unhide HO, unhide HB⟩
end Go.Proofs.Ytibjhjkeflbghaa

/- slices.Concat of two lists of keys. -/
namespace Go.Proofs.Ytibjhjkeflbghaa
open Go.RowKit
set_option maxRecDepth 100000

/-- What stands behind the first t of two. -/
def cat2 (zs os : List Ky) (t : Nat) : List Ky := if t = 0 then [] else if t = 1 then zs else zs ++ os
theorem cat2_le (zs os : List Ky) (t : Nat) : (cat2 zs os t).length ≤ zs.length + os.length := by
  unfold cat2
  split
  · simp
  · split
    · omega
    · simp

theorem cat_h0 {zs os : List Ky} {N1 N2 : Nat} (e : zs.length = N1) (hn : N1 + N2 ≤ 8796093022208) : (cat2 zs os 0).length + zs.length ≤ 8796093022208 := by
  have : (cat2 zs os 0).length = 0 := by simp [cat2]
  omega
theorem cat_h1 {zs os : List Ky} {N1 N2 : Nat} (e : zs.length = N1) (e2 : os.length = N2) (hn : N1 + N2 ≤ 8796093022208) : (cat2 zs os 1).length + os.length ≤ 8796093022208 := by
  have : (cat2 zs os 1).length = zs.length := by simp [cat2]
  omega
set_option maxHeartbeats 3200000 in
theorem concat_keys (bx : Nat) (bv ov : Value) (zs os : List Ky) (w : World) (c0 : w.cell? ⟨bx, 0, none⟩ = some bv) (c1 : w.cell? ⟨bx, 1, none⟩ = some ov) (hz : SeesL kC 2 w bv zs) (ho : SeesL kC 2 w ov os) (hn : zs.length + os.length ≤ 8796093022208) :
    Calls Try.prog 40 #[.slice (some ⟨bx, 0, none⟩) 2 2] w fun e w' => ∃ v, e = .returned v ∧ w'.ownsRow w.heap.size 37 2 v (zs ++ os).length ((zs ++ os).flatMap kC) ∧ Below w.heap.size w w' := by
  have HZ := hide hz
  have HO := hide ho
  have HC0 := hide c0
  have HC1 := hide c1
  obtain ⟨ab, cb, rfl⟩ := hz.shape
  obtain ⟨ao, co, rfl⟩ := ho.shape
  obtain ⟨N1, e1⟩ : ∃ n, zs.length = n := ⟨_, rfl⟩
  obtain ⟨N2, e2⟩ : ∃ n, os.length = n := ⟨_, rfl⟩
  rw [e1] at c0
  rw [e2] at c1
  rw [e1, e2] at hn
  have HE1 := hide e1
  have HE2 := hide e2
  clear e1 e2
  go_enter Try.func40, Try.ntmps40
  go_wp2
  go_loopw [3, 11] (fun s c wr => wr = w ∧ ∃ t : Nat, t ≤ 2 ∧ c = .int .i64 t ∧ s = .int .i64 (if t = 0 then 0 else if t = 1 then N1 else N1 + N2)) (fun _ c _ => 2 - (intOf c).toNat)
  case atStart => exact ⟨rfl, 0, by omega, rfl, rfl⟩
  case round =>
    obtain ⟨rfl, t, ht, rfl, rfl⟩ := hrel
    rcases (by omega : t = 0 ∨ t = 1 ∨ t = 2) with rfl | rfl | rfl
    · simp only [if_true]
      go_wp2
      go_roundw
      case rel => exact ⟨trivial, 1, by omega, rfl, by simp⟩
      case measure => simp [intOf]
    · have hw1 : wrap64 ((N1 : Int) + N2) = (N1 : Int) + N2 := by unfold wrap64; omega
      have hge : ¬ ((N1 : Int) + N2 < 0) := by omega
      simp only [Nat.one_ne_zero, if_false, if_true]
      go_wp2
      go_roundw
      case rel => exact ⟨trivial, 2, by omega, rfl, by simp⟩
      case measure => simp [intOf]
    · have HG := hide (grow_nil (N1 + N2) wr (by omega))
      simp only [show ¬ (2 : Nat) = 0 by decide, show ¬ (2 : Nat) = 1 by decide, if_false]
      rw [show ((N1 : Int) + N2) = ((N1 + N2 : Nat) : Int) by omega]
      go_wp2_with fail
      refine (unhide HG).mono ?_
      rintro e w1 ⟨v1, rfl, ho1, hb1⟩
      have HO1 := hide ho1
      have HB1 := hide hb1
      obtain ⟨av, cv, rfl⟩ := own_shape ho1
      clear ho1 hb1 HG
      go_wp2
      obtain ⟨wB, hwB⟩ : ∃ W, W = wr := ⟨_, rfl⟩
      subst hwB
      go_loopw [6, 27] (fun s c wr => ∃ t : Nat, t ≤ 2 ∧ c = .int .i64 t ∧ wr.ownsRow wB.heap.size 37 2 s (cat2 zs os t).length ((cat2 zs os t).flatMap kC) ∧ Below wB.heap.size wB wr) (fun _ c _ => 2 - (intOf c).toNat)
      case atStart => exact ⟨0, by omega, rfl, unhide HO1, unhide HB1⟩
      case round =>
        obtain ⟨t, ht, rfl, hor, hbr⟩ := hrel
        have HOr := hide hor
        have HBr := hide hbr
        have hle := cat2_le zs os t
        rw [unhide HE1, unhide HE2] at hle
        obtain ⟨aq, cq, rfl⟩ := own_shape hor
        have hsz := hbr.size
        have d0 : wr.cell? ⟨bx, 0, none⟩ = some (.slice ab N1 cb) := (hbr.cell (p := ⟨bx, 0, none⟩) (World.block_lt_of_cell? wB _ c0)).trans c0
        have d1 : wr.cell? ⟨bx, 1, none⟩ = some (.slice ao N2 co) := (hbr.cell (p := ⟨bx, 1, none⟩) (World.block_lt_of_cell? wB _ c1)).trans c1
        have sz := (unhide HZ).below kC_len hbr
        have so := (unhide HO).below kC_len hbr
        rw [unhide HE1] at sz
        rw [unhide HE2] at so
        have SZ := hide sz
        have SO := hide so
        clear hor hbr sz so
        rcases (by omega : t = 0 ∨ t = 1 ∨ t = 2) with rfl | rfl | rfl
        · obtain ⟨v', w2, hr2, ho2, hg2⟩ := append_keys 24 (unhide HOr) (unhide SZ) (cat_h0 (unhide HE1) hn) hsz
          have HR2 := hide hr2
          have hb2 : Below wB.heap.size wB w2 := (unhide HBr).trans ⟨hg2.os, hg2.tape, hg2.output, hg2.size, fun k hk => hg2.block k (by omega) (fun e => by have := ((unhide HOr).lt k e.symm).1; omega)⟩
          have HF : Hid (w2.ownsRow wB.heap.size 37 2 v' (cat2 zs os 1).length ((cat2 zs os 1).flatMap kC) ∧ Below wB.heap.size wB w2) := ⟨by simpa [cat2] using ho2, hb2⟩
          obtain ⟨a', c', rfl⟩ := own_shape ho2
          clear ho2 hg2 hb2 hr2
          go_wp2_with (at_builtin; refine wpList_append_run rfl _ _ 24 24 rfl rfl rfl (unhide HR2) ?_)
          go_roundw
          case rel => exact ⟨1, by omega, rfl, (unhide HF).1, (unhide HF).2⟩
          case measure => simp [intOf]
        · obtain ⟨v', w2, hr2, ho2, hg2⟩ := append_keys 24 (unhide HOr) (unhide SO) (cat_h1 (unhide HE1) (unhide HE2) hn) hsz
          have HR2 := hide hr2
          have hb2 : Below wB.heap.size wB w2 := (unhide HBr).trans ⟨hg2.os, hg2.tape, hg2.output, hg2.size, fun k hk => hg2.block k (by omega) (fun e => by have := ((unhide HOr).lt k e.symm).1; omega)⟩
          have HF : Hid (w2.ownsRow wB.heap.size 37 2 v' (cat2 zs os 2).length ((cat2 zs os 2).flatMap kC) ∧ Below wB.heap.size wB w2) := ⟨by simpa [cat2] using ho2, hb2⟩
          obtain ⟨a', c', rfl⟩ := own_shape ho2
          clear ho2 hg2 hb2 hr2
          go_wp2_with (at_builtin; refine wpList_append_run rfl _ _ 24 24 rfl rfl rfl (unhide HR2) ?_)
          go_roundw
          case rel => exact ⟨2, by omega, rfl, (unhide HF).1, (unhide HF).2⟩
          case measure => simp [intOf]
        · go_wp2
          go_ret
          exact ⟨_, rfl, by simpa [cat2] using unhide HOr, unhide HBr⟩
end Go.Proofs.Ytibjhjkeflbghaa
