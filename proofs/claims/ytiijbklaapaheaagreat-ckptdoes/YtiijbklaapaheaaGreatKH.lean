/- Several texts as one. -/
import Derived.Test.YtiijbklaapaheaaGreatEC
import Derived.Test.YtiijbklaapaheaaGreatKB
import Derived.Test.YtiijbklaapaheaaGreatKP
import Derived.Test.YtiijbklaapaheaaGreatKO

/- CkptCodes: the walk. -/
namespace Go.Proofs.YtiijbklaapaheaaGreat
open Go.RowKit
set_option maxRecDepth 100000

/-- The bytes of a checkpoint, none where it may not be. -/
def encL (number slot last : Int) (ds : List Int) : List Int := if faultE number slot last ds.length = 0 then ckB number slot last ds else []
theorem encL_byt {number slot last : Int} {ds : List Int} (h : Byt ds) : Byt (encL number slot last ds) := by
  unfold encL
  split
  · exact ((putL_byt _).append (bodyB_byt h)).append (lowL_byte _ _)
  · intro b hb; cases hb
theorem dec_byt {zs : List Int} (h : Byt zs) : Byt (dec zs).data := by
  unfold dec
  (repeat' split)
  · intro b hb; cases hb
  · intro b hb; cases hb
  · intro b hb; cases hb
  · intro b hb; cases hb
  · exact tb_byte _ ((tu_byte zs h).drop _)

theorem rencode_all (number slot last : Int) (ao : Option Addr) (cap : Nat) (ds : List Int) (w : World) (hd : Sees w .u8 (.slice ao ds.length cap) ds) (hby : Byt ds) (hl : ds.length ≤ 140737488355328) :
    Calls Tryz.prog 43 #[.int .i64 number, .agg #[.int .i64 slot, .int .i64 last, .slice ao ds.length cap]] w fun e w' => ∃ a c, e = .returned (.tuple #[.slice a (encL number slot last ds).length c, .int .i64 (faultE number slot last ds.length)]) ∧ Sees w' .u8 (.slice a (encL number slot last ds).length c) (encL number slot last ds) ∧ Below w.heap.size w w' := by
  unfold encL
  by_cases hf : faultE number slot last ds.length = 0
  · rw [if_pos hf]
    refine (rencode_ok number slot last _ ds w hd hby hf).mono ?_
    rintro e w' ⟨v, rfl, ho, hb⟩
    have hs := (sees_of_own ho).2
    obtain ⟨a, c, rfl⟩ := own_shape ho
    exact ⟨_, _, by rw [hf], hs, hb⟩
  · rw [if_neg hf]
    refine (rencode_err number slot last ao ds.length cap w hl hf).mono ?_
    rintro e w' ⟨rfl, hb⟩
    exact ⟨_, _, rfl, Sees.nil _ _, hb⟩

theorem same_true (s l : Int) (a b : Option Addr) (n ca cb : Nat) (xs : List Int) (w : World) (_hn : n = xs.length) (ha : Sees w .u8 (.slice a n ca) xs) (hb : Sees w .u8 (.slice b n cb) xs) (hx : Byt xs) :
    Calls Tryz.prog 16 #[.agg #[.int .i64 s, .int .i64 l, .slice a n ca], .agg #[.int .i64 s, .int .i64 l, .slice b n cb]] w fun e w' => e = .returned (.bool true) ∧ Below w.heap.size w w' :=
  (same_any s l s l _ _ xs xs w ha hb hx hx).mono fun e w' h => ⟨by simpa using h.1, h.2⟩
theorem equal_true (av bv : Value) (xs : List Int) (w : World) (ha : Sees w .u8 av xs) (hb : Sees w .u8 bv xs) (hx : Byt xs) :
    Calls Tryz.prog 34 #[av, bv] w fun e w' => e = .returned (.bool true) ∧ w = w' :=
  (equal_any av bv xs xs w ha hb hx hx).mono fun e w' h => ⟨by simpa using h.1, h.2⟩

end Go.Proofs.YtiijbklaapaheaaGreat

/- The document's checkpoints: which regions may be, and what a half shows. -/
namespace Go.Proofs.YtiijbklaapaheaaGreat
open Go.RowKit
set_option maxRecDepth 100000
variable {w : World} {S : Nat → Prop} {hr gp gw cp cw : Nat} {pb cb : Nat → Nat} {bv : Nat → Nat → Value} {F : Fl} {kp : Int}

set_option maxHeartbeats 800000 in
theorem rmay_any (H : IsRf w S hr gp gw cp cw pb cb bv F kp) (f b : Int) (hf : -9223372036854775808 ≤ f ∧ f ≤ 9223372036854775807) (hb : -9223372036854775808 ≤ b ∧ b ≤ 9223372036854775807) :
    Calls Tryz.prog 42 #[P0 hr, .agg #[.int .i64 f, .int .i64 b]] w fun e w' => e = .returned (.bool (decide (regE F.n f b = 0))) ∧ Below w.heap.size w w' := by
  have hle := H.le
  have hlt := H.rlt.1
  obtain ⟨B, hB⟩ : ∃ B, w.alloc (.cells #[.int .i64 f, .int .i64 b] 32) = B := ⟨_, rfl⟩
  have HBB : Hid (Below w.heap.size w B) := hB ▸ (Below.refl _ _).alloc (Nat.le_refl _) _
  have q0 : B.cell? ⟨w.heap.size, 0, none⟩ = some (.int .i64 f) := by rw [← hB]; simp [go_sem]
  have q1 : B.cell? ⟨w.heap.size, 1, none⟩ = some (.int .i64 b) := by rw [← hB]; simp [go_sem]
  have h0 := (H.below (unhide HBB)).c0
  clear H
  obtain ⟨n, hn⟩ : ∃ n : Nat, F.n = n := ⟨_, rfl⟩
  rw [hn] at h0 hle ⊢
  clear hn
  obtain ⟨hf0, hf1⟩ := hf
  obtain ⟨hb0, hb1⟩ := hb
  have htm : 2 ≤ b → b.tmod 2 = b % 2 := fun h => Int.tmod_eq_emod_of_nonneg (by omega)
  by_cases c1 : b < 2
  · have e : regE n f b ≠ 0 := by unfold regE; rw [if_pos (by omega)]; decide
    rw [decide_eq_false e]
    go_enter Tryz.func42, Tryz.ntmps42
    go_wp2_with (rw [hB])
    go_ret
    exact ⟨rfl, unhide HBB⟩
  have ht := htm (by omega)
  have c1' : 2 ≤ b := by omega
  clear htm
  by_cases c2 : b % 2 = 0
  case neg =>
    have e : regE n f b ≠ 0 := by unfold regE; rw [if_pos (by omega)]; decide
    rw [decide_eq_false e]
    have ht2 : b % 2 = 1 := by omega
    rw [ht2] at ht
    clear c2
    go_enter Tryz.func42, Tryz.ntmps42
    go_wp2_with (rw [hB])
    go_ret
    exact ⟨rfl, unhide HBB⟩
  rw [c2] at ht
  by_cases c3 : b ≤ n
  case neg =>
    have e : regE n f b ≠ 0 := by unfold regE; split; · decide
                                  · omega
    have e' : regE n f b ≠ 0 := e
    rw [decide_eq_false e']
    have c3' : (n : Int) < b := by omega
    go_enter Tryz.func42, Tryz.ntmps42
    go_wp2_with (rw [hB])
    go_ret
    exact ⟨rfl, unhide HBB⟩
  by_cases c4 : 0 ≤ f
  case neg =>
    have e : regE n f b ≠ 0 := by unfold regE; rw [if_pos (by omega)]; decide
    rw [decide_eq_false e]
    have c4' : f < 0 := by omega
    go_enter Tryz.func42, Tryz.ntmps42
    go_wp2_with (rw [hB])
    go_ret
    exact ⟨rfl, unhide HBB⟩
  by_cases c5 : f ≤ n - b
  · have e : regE n f b = 0 := by unfold regE; rw [if_neg (by omega)]
    rw [decide_eq_true e]
    go_enter Tryz.func42, Tryz.ntmps42
    go_wp2_with (rw [hB])
    go_ret
    exact ⟨rfl, unhide HBB⟩
  · have e : regE n f b ≠ 0 := by unfold regE; rw [if_pos (by omega)]; decide
    rw [decide_eq_false e]
    have c5' : (n : Int) - b < f := by omega
    go_enter Tryz.func42, Tryz.ntmps42
    go_wp2_with (rw [hB])
    go_ret
    exact ⟨rfl, unhide HBB⟩
end Go.Proofs.YtiijbklaapaheaaGreat
