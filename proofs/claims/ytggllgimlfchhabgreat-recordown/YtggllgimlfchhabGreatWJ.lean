/- Contract of bytes.Clone. -/
import Derived.Test.YtggllgimlfchhabGreatKP
import Derived.Test.YtggllgimlfchhabGreatKU
namespace Go.Proofs.YtggllgimlfchhabGreat
open Go.RowKit
set_option maxRecDepth 100000

set_option maxHeartbeats 400000 in
theorem clone_any (bv : Value) (zs : List Int) (w : World) (hs : Sees w .u8 bv zs) (hm : zs.length ≤ 140737488355328) :
    Calls Tryz.prog 16 #[bv] w fun e w' => ∃ x, e = .returned x ∧ w'.ownsRow w.heap.size 5 1 x zs.length (ints .u8 zs) ∧ Below w.heap.size w w' := by
  obtain ⟨i0, hi, hz0, hz1, hz2⟩ := info_parts Tryz.info5
  have HS := hide hs
  have hE := fun (w : World) a n c => Lib.run_eql_slice_nil (P := Tryz.prog) w 26 5 a n c 0 0 Tryz.underlying26
  obtain ⟨ao, cap, rfl, hlc, hnil, hc⟩ := hs
  clear hc
  cases ao with
  | none =>
    obtain rfl := hnil rfl
    obtain rfl : zs = [] := List.length_eq_zero_iff.1 (by omega)
    go_enter Tryz.func16, Tryz.ntmps16
    go_wp2
    go_ret
    exact ⟨_, rfl, World.ownsRow_nil _ _ _ _, Below.refl _ _⟩
  | some a =>
    go_enter Tryz.func16, Tryz.ntmps16
    go_wp2_with (at_builtin; refine wpList_append_sees rfl _ _ 26 rfl w.heap.size 5 i0 (.int .u8 0) 1 Tryz.underlying26 hi hz0 hz1 hz2 rfl _ 0 [] rfl (own_new w .u8 [] 5 w.heap.size 0 rfl (Nat.le_refl _) (by decide)) .u8 _ zs rfl ?d0 ?d1 ?d2 ?d3 ?_)
    case d0 => exact (unhide HS).below ((Below.refl _ _).alloc (Nat.le_refl _) _)
    case d1 => unfold maxLen; omega
    case d2 => omega
    case d3 => simp
    intro x w1 ho hg
    go_wp2
    go_ret
    refine ⟨x, rfl, by simpa using ho, ((Below.refl _ _).alloc (Nat.le_refl _) _).grown hg (by simp) ?_⟩
    intro k hk
    simp [Value.ownBlock] at hk
    omega

end Go.Proofs.YtggllgimlfchhabGreat
