/- Several texts as one. -/
import Derived.Test.YtggllgimlfchhaaW9
import Derived.Test.YtggllgimlfchhaaWA
import Derived.Deep.RegionHeld3

/- Contracts of TakeBlob and of the statements' own live. -/
namespace Go.Proofs.Ytggllgimlfchhaa
open Go.RowKit
set_option maxRecDepth 100000

theorem tb_no (l : List Int) (h : (tb l).2.2 ≠ 0) : (tb l).1 = [] ∧ (tb l).2.1 = 0 := by
  unfold tb at h ⊢
  by_cases c1 : (tn l).2.2 ≠ 0
  · rw [if_pos c1]; exact ⟨rfl, rfl⟩
  rw [if_neg c1] at h ⊢
  by_cases c2 : (tn l).1 < 0
  · rw [if_pos c2]; exact ⟨rfl, rfl⟩
  rw [if_neg c2] at h ⊢
  by_cases c3 : (l.length : Int) - (tn l).2.1 < (tn l).1
  · rw [if_pos c3]; exact ⟨rfl, rfl⟩
  rw [if_neg c3] at h
  exact absurd rfl h

set_option maxHeartbeats 400000 in
/-- TakeBlob. -/
theorem takeBlob_any (bv : Value) (zs : List Int) (w : World) (hs : Sees w .u8 bv zs) (hby : Byt zs) (hm : zs.length ≤ 140737488355328) :
    Calls Try.prog 99 #[bv] w fun e w' => ∃ x, e = .returned (.tuple #[x, .int .i64 (tb zs).2.1, .int .i64 (tb zs).2.2]) ∧ w'.ownsRow w.heap.size 5 1 x (tb zs).1.length (ints .u8 (tb zs).1) ∧ Below w.heap.size w w' := by
  have hst := tw_sees hs
  have hnum := blobR_any (w.heap.size + 1) bv zs 0 (tw w bv) (tw_at w bv) hst hby hm (Nat.zero_le _)
  rw [List.drop_zero, tw_size] at hnum
  obtain ⟨ao, cap, rfl, hlc, hnil, hc⟩ := hs
  have key : Calls Try.prog 110 #[.slice ao zs.length cap, .func (Fn.func 111) #[] #[]] w fun e w' => ∃ x, e = .returned (.tuple #[x, .int .i64 (tb zs).2.1, .int .i64 (tb zs).2.2]) ∧ w'.ownsRow w.heap.size 5 1 x (tb zs).1.length (ints .u8 (tb zs).1) ∧ Below w.heap.size w w' := by
    by_cases he : (tb zs).2.2 = 0
    · refine (take37_38_ok ao zs.length cap (tb zs).2.1 w (fun x w' => w'.ownsRow (w.heap.size + 2) 5 1 x (tb zs).1.length (ints .u8 (tb zs).1)) (fun _ _ _ h => h) (fun _ _ _ h => ownsRow_setCell_below h (by show w.heap.size < _; omega) _) (fun _ _ _ h => h.alloc _) (hnum.mono ?_)).mono ?_
      · rintro e w' ⟨h1, h2, _⟩
        obtain ⟨x, h3, h4, h5⟩ := h2 he
        rw [Nat.zero_add] at h4
        exact ⟨x, h3, h4, h1, h5⟩
      · rintro e w' ⟨x, rfl, hb, ho⟩
        exact ⟨x, by rw [he], own_mono ho (by omega), hb⟩
    · refine (take37_38_no ao zs.length cap (tb zs).2.2 w (hnum.mono ?_)).mono ?_
      · rintro e w' ⟨h1, _, h3⟩
        exact ⟨h3 he, h1⟩
      · rintro e w' ⟨rfl, hb⟩
        obtain ⟨e1, e2⟩ := tb_no zs he
        rw [e1, e2]
        exact ⟨_, rfl, World.ownsRow_nil _ _ _ _, hb⟩
  have HK := hide key
  clear key hst hnum hc
  go_enter Try.func99, Try.ntmps99
  go_wp2_with (go_at_call 110; refine (unhide HK).mono ?_; rintro e w1 ⟨x, rfl, ho, hb⟩)
  go_ret3
  exact ⟨x, rfl, ho, hb⟩

end Go.Proofs.Ytggllgimlfchhaa

/- Record: counts, replicas, the order of keys. -/
namespace Go.Proofs.Ytggllgimlfchhaa
open Go.RowKit
set_option maxRecDepth 100000

theorem retBool {a b : Bool} (h : a = b) : Ending.returned (.bool a) = .returned (.bool b) := by rw [h]
theorem retInt {k : IntKind} {a b : Int} (h : a = b) : Ending.returned (.int k a) = .returned (.int k b) := by rw [h]

def isCnt (n : Int) : Bool := decide (0 ≤ n ∧ n ≤ 1099511627776)
def isRep (n : Int) : Bool := decide (0 ≤ n ∧ n < 5)

theorem isCount_any (n : Int) (w : World) : Calls Try.prog 68 #[.int .i64 n] w fun e w' => e = .returned (.bool (isCnt n)) ∧ w = w' := by
  unfold isCnt
  by_cases h : 0 ≤ n
  · go_enter Try.func68, Try.ntmps68
    go_wp2
    go_ret
    exact ⟨retBool (by simp; omega), rfl⟩
  · go_enter Try.func68, Try.ntmps68
    go_wp2
    go_ret
    exact ⟨retBool (by simp; omega), rfl⟩
theorem count_any (n : Int) (w : World) : Calls Try.prog 58 #[.int .i64 n] w fun e w' => e = .returned (.bool (isCnt n)) ∧ w = w' := by
  unfold isCnt
  by_cases h : 0 ≤ n
  · go_enter Try.func58, Try.ntmps58
    go_wp2
    go_ret
    exact ⟨retBool (by simp; omega), rfl⟩
  · go_enter Try.func58, Try.ntmps58
    go_wp2
    go_ret
    exact ⟨retBool (by simp; omega), rfl⟩
theorem isReplica_any (n : Int) (w : World) : Calls Try.prog 86 #[.int .i64 n] w fun e w' => e = .returned (.bool (isRep n)) ∧ w = w' := by
  unfold isRep
  by_cases h : 0 ≤ n
  · go_enter Try.func86, Try.ntmps86
    go_wp2
    go_ret
    exact ⟨retBool (by simp; omega), rfl⟩
  · go_enter Try.func86, Try.ntmps86
    go_wp2
    go_ret
    exact ⟨retBool (by simp; omega), rfl⟩
theorem verdict_any (b : Bool) (w : World) : Calls Try.prog 81 #[.bool b] w fun e w' => e = .returned (.int .i64 (if b then 0 else 40)) ∧ w = w' := by
  cases b
  · go_enter Try.func81, Try.ntmps81
    go_wp2
    go_ret
    exact ⟨rfl, rfl⟩
  · go_enter Try.func81, Try.ntmps81
    go_wp2
    go_ret
    exact ⟨rfl, rfl⟩

/-- Which of two comes first: -1, 0, 1. -/
def cmpI (a b : Int) : Int := if a < b then -1 else if b < a then 1 else 0

theorem nan32 (a : Int) (w : World) : Calls Try.prog 112 #[.int .i32 a] w fun e w' => e = .returned (.bool false) ∧ w = w' := by
  go_enter Try.func112, Try.ntmps112
  go_wp2
  go_ret
  exact ⟨retBool (by simp), rfl⟩
theorem nan64 (a : Int) (w : World) : Calls Try.prog 113 #[.int .i64 a] w fun e w' => e = .returned (.bool false) ∧ w = w' := by
  go_enter Try.func113, Try.ntmps113
  go_wp2
  go_ret
  exact ⟨retBool (by simp), rfl⟩
theorem cmp32 (a b : Int) (w : World) : Calls Try.prog 103 #[.int .i32 a, .int .i32 b] w fun e w' => e = .returned (.int .i64 (cmpI a b)) ∧ w = w' := by
  unfold cmpI
  by_cases h1 : a < b
  · rw [if_pos h1]
    go_enter Try.func103, Try.ntmps103
    go_wp2_with (go_at_call 112; refine (nan32 _ _).mono ?_; rintro e w' ⟨rfl, rfl⟩)
    go_ret
    exact ⟨rfl, rfl⟩
  · rw [if_neg h1]
    by_cases h2 : b < a
    · rw [if_pos h2]
      go_enter Try.func103, Try.ntmps103
      go_wp2_with (go_at_call 112; refine (nan32 _ _).mono ?_; rintro e w' ⟨rfl, rfl⟩)
      go_ret
      exact ⟨rfl, rfl⟩
    · rw [if_neg h2]
      go_enter Try.func103, Try.ntmps103
      go_wp2_with (go_at_call 112; refine (nan32 _ _).mono ?_; rintro e w' ⟨rfl, rfl⟩)
      go_ret
      exact ⟨rfl, rfl⟩
theorem cmp64 (a b : Int) (w : World) : Calls Try.prog 104 #[.int .i64 a, .int .i64 b] w fun e w' => e = .returned (.int .i64 (cmpI a b)) ∧ w = w' := by
  unfold cmpI
  by_cases h1 : a < b
  · rw [if_pos h1]
    go_enter Try.func104, Try.ntmps104
    go_wp2_with (go_at_call 113; refine (nan64 _ _).mono ?_; rintro e w' ⟨rfl, rfl⟩)
    go_ret
    exact ⟨rfl, rfl⟩
  · rw [if_neg h1]
    by_cases h2 : b < a
    · rw [if_pos h2]
      go_enter Try.func104, Try.ntmps104
      go_wp2_with (go_at_call 113; refine (nan64 _ _).mono ?_; rintro e w' ⟨rfl, rfl⟩)
      go_ret
      exact ⟨rfl, rfl⟩
    · rw [if_neg h2]
      go_enter Try.func104, Try.ntmps104
      go_wp2_with (go_at_call 113; refine (nan64 _ _).mono ?_; rintro e w' ⟨rfl, rfl⟩)
      go_ret
      exact ⟨rfl, rfl⟩

/-- cmp.Or of two. -/
theorem or2 (b : Nat) (x y : Int) (w : World) (c0 : w.cell? ⟨b, 0, none⟩ = some (.int .i64 x)) (c1 : w.cell? ⟨b, 1, none⟩ = some (.int .i64 y)) :
    Calls Try.prog 102 #[.slice (some ⟨b, 0, none⟩) 2 2] w fun e w' => e = .returned (.int .i64 (if x = 0 then y else x)) ∧ w = w' := by
  go_enter Try.func102, Try.ntmps102
  go_wp2
  go_loopw [8] (fun c wr => ∃ t : Nat, t ≤ 2 ∧ c = .int .i64 t ∧ wr = w ∧ (1 ≤ t → x = 0) ∧ (2 ≤ t → y = 0)) (fun c _ => 2 - (intOf c).toNat)
  case atStart => exact ⟨0, by omega, rfl, rfl, by omega, by omega⟩
  case round =>
    obtain ⟨t, ht, rfl, rfl, h1, h2⟩ := hrel
    rcases (by omega : t = 0 ∨ t = 1 ∨ t = 2) with rfl | rfl | rfl
    · clear h1 h2
      by_cases hx : x = 0
      · go_wp2
        go_roundw
        case rel => exact ⟨1, by omega, rfl, trivial, fun _ => hx, fun h => absurd h (by omega)⟩
        case measure => simp [intOf]
      · go_wp2
        go_ret
        exact ⟨retInt (by simp), rfl⟩
    · have hx := h1 (by omega)
      clear h1 h2
      by_cases hy : y = 0
      · go_wp2
        go_roundw
        case rel => exact ⟨2, by omega, rfl, trivial, fun _ => hx, fun _ => hy⟩
        case measure => simp [intOf]
      · go_wp2
        go_ret
        exact ⟨retInt (by simp), rfl⟩
    · have hx := h1 (by omega)
      have hy := h2 (by omega)
      clear h1 h2
      go_wp2
      go_ret
      exact ⟨retInt (by simp), rfl⟩
end Go.Proofs.Ytggllgimlfchhaa
