/- Contracts of bytes.Equal and bytes.Clone. -/
import Derived.Test.YteehhbgjjamjiaaMem2
import Derived.Test.YteehhbgjjamjiaaM1
namespace Go.Proofs.Yteehhbgjjamjiaa
open Go.RowKit

theorem Try.info5 : (Try.prog.info? 5).map (fun i => (i.zero, i.size, i.bytes)) = some (some (.int .u8 0), 1, 1) := by kernel_rfl

theorem str_beq {xs ys : List Int} (hx : Byt xs) (hy : Byt ys) : ((strOf xs).toList == (strOf ys).toList) = decide (xs = ys) := by
  rw [ByteArray.toList_eq, ByteArray.toList_eq, Bool.eq_iff_iff]
  simp only [beq_iff_eq, decide_eq_true_eq]
  constructor
  · intro h
    refine strOf_inj hx hy ?_
    have : (strOf xs).data = (strOf ys).data := Array.toList_inj.1 h
    cases hs : strOf xs
    cases hs' : strOf ys
    rw [hs, hs'] at this
    simp_all
  · rintro rfl; rfl

set_option maxHeartbeats 400000 in
theorem equal_any (av bv : Value) (xs ys : List Int) (w : World) (ha : Sees w .u8 av xs) (hb : Sees w .u8 bv ys) (hx : Byt xs) (hy : Byt ys) :
    Calls Try.prog 28 #[av, bv] w fun e w' => e = .returned (.bool (decide (xs = ys))) ∧ w = w' := by
  have h1 := run_conv_sees (P := Try.prog) w 28 9 5 av xs Try.underlying28 Try.underlying5 Try.underlying9 ha hx
  have h2 := run_conv_sees (P := Try.prog) w 28 9 5 bv ys Try.underlying28 Try.underlying5 Try.underlying9 hb hy
  clear ha hb
  go_enter Try.func28, Try.ntmps28
  go_wp2
  go_ret
  exact ⟨by rw [← str_beq hx hy]; rfl, rfl⟩

set_option maxHeartbeats 400000 in
theorem clone_any (bv : Value) (zs : List Int) (w : World) (hs : Sees w .u8 bv zs) (hm : zs.length ≤ 140737488355328) :
    Calls Try.prog 22 #[bv] w fun e w' => ∃ x, e = .returned x ∧ w'.ownsRow w.heap.size 5 1 x zs.length (ints .u8 zs) ∧ Below w.heap.size w w' := by
  obtain ⟨i0, hi, hz0, hz1, hz2⟩ := info_parts Try.info5
  have HS := hide hs
  have hE := fun (w : World) a n c => Lib.run_eql_slice_nil (P := Try.prog) w 28 5 a n c 0 0 Try.underlying28
  obtain ⟨ao, cap, rfl, hlc, hnil, hc⟩ := hs
  clear hc
  cases ao with
  | none =>
    obtain rfl := hnil rfl
    obtain rfl : zs = [] := List.length_eq_zero_iff.1 (by omega)
    go_enter Try.func22, Try.ntmps22
    go_wp2
    go_ret
    exact ⟨_, rfl, World.ownsRow_nil _ _ _ _, Below.refl _ _⟩
  | some a =>
    go_enter Try.func22, Try.ntmps22
    go_wp2_with (at_builtin; refine wpList_append_sees rfl _ _ 28 rfl w.heap.size 5 i0 (.int .u8 0) 1 Try.underlying28 hi hz0 hz1 hz2 rfl _ 0 [] rfl (own_new w .u8 [] 5 w.heap.size 0 rfl (Nat.le_refl _) (by decide)) .u8 _ zs rfl ?d0 ?d1 ?d2 ?d3 ?_)
    case d0 => exact (unhide HS).below ((Below.refl _ _).alloc (Nat.le_refl _) _)
    case d1 => unfold maxLen; omega
    case d2 => omega
    case d3 => simp
    intro x w1 ho hg
    go_wp2
    go_ret
    refine ⟨x, rfl, by simpa using ho, ((Below.refl _ _).alloc (Nat.le_refl _) _).grown hg (by simp) ?_⟩
    intro k hk
    simp [Value.ownBlock] at hk
    omega


end Go.Proofs.Yteehhbgjjamjiaa
