/- Count. -/
import Derived.Test.YtpadbbkklmgimaaI1
namespace Go.Proofs.Ytpadbbkklmgimaa
open Go.RowKit

def Vt.counts (V : Vt) (who term : Int) (yes : Bool) : Bool := yes && V.vt V.self && decide (term = V.term) && V.other who && !V.vt who.toNat
def Vt.count (V : Vt) (who term : Int) (yes : Bool) : Vt := if V.counts who term yes then V.setVt who.toNat true else V
def Vt.wins (V : Vt) (who term : Int) (yes : Bool) : Bool := V.counts who term yes && !V.won && (V.setVt who.toNat true).won

/-- Why an answer is not counted. -/
theorem Vt.counts_not {V : Vt} {who term : Int} {yes : Bool} (h : V.counts who term yes = false) :
    yes = false ∨ (yes = true ∧ V.vt V.self = false) ∨ (yes = true ∧ V.vt V.self = true ∧ term ≠ V.term) ∨ (yes = true ∧ V.vt V.self = true ∧ term = V.term ∧ V.other who = false) ∨ (yes = true ∧ V.vt V.self = true ∧ term = V.term ∧ V.other who = true ∧ V.vt who.toNat = true) := by
  unfold Vt.counts at h
  cases yes <;> cases c1 : V.vt V.self <;> cases c3 : V.other who <;> cases c4 : V.vt who.toNat <;> by_cases c2 : term = V.term <;> simp_all
theorem Vt.counts_is {V : Vt} {who term : Int} {yes : Bool} (h : V.counts who term yes = true) : yes = true ∧ V.vt V.self = true ∧ term = V.term ∧ V.other who = true ∧ V.vt who.toNat = false := by
  unfold Vt.counts at h
  cases yes <;> cases c1 : V.vt V.self <;> cases c3 : V.other who <;> cases c4 : V.vt who.toNat <;> by_cases c2 : term = V.term <;> simp_all
theorem Vt.other_nat {V : Vt} {who : Int} (O : V.Ok) (h : V.other who = true) : ∃ k : Nat, who = k ∧ k < 5 ∧ k < V.n ∧ k ≠ V.self := by
  simp only [Vt.other, Bool.and_eq_true, decide_eq_true_eq] at h
  have := O.le
  exact ⟨who.toNat, by omega, by omega, by omega, by omega⟩

theorem Vt.Ok.setVtc {V : Vt} (O : V.Ok) (i : Nat) : (V.setVt i true).Ok := ⟨O.pos, O.le, O.me, O.t0, O.t1, O.v0, O.v1⟩

set_option maxHeartbeats 800000 in
theorem count_not {h : Nat} {V : Vt} {w : World} (H : IsV w h V) (O : V.Ok) (who term : Int) (yes : Bool) (hc : V.counts who term yes = false) :
    Calls Try.prog 17 #[P0 h, .int .i64 who, .int .i64 term, .bool yes] w fun e w' => e = .returned (.bool false) ∧ Below w.heap.size w w' := by
  have HS := hide (standing_yes H O)
  have HI := hide H
  have HO := hide O
  clear H O
  rcases Vt.counts_not hc with rfl | ⟨rfl, c1⟩ | ⟨rfl, c1, c2⟩ | ⟨rfl, c1, c2, c3⟩ | ⟨rfl, c1, c2, c3, c4⟩
  · clear hc
    go_enter Try.func17, Try.ntmps17
    go_wp2
    go_ret
    exact ⟨rfl, Below.refl _ _⟩
  · rw [c1] at HS
    clear hc
    go_enter Try.func17, Try.ntmps17
    go_wp2_with fail
    refine (unhide HS).mono ?_
    rintro e w1 ⟨rfl, hb1⟩
    have HB := hide hb1
    clear hb1
    go_wp2
    go_ret
    exact ⟨rfl, unhide HB⟩
  · rw [c1] at HS
    clear hc
    go_enter Try.func17, Try.ntmps17
    go_wp2_with fail
    refine (unhide HS).mono ?_
    rintro e w1 ⟨rfl, hb1⟩
    have HB := hide hb1
    have k2 := ((unhide HI).below hb1).c2
    clear hb1
    go_wp2
    go_ret
    exact ⟨rfl, unhide HB⟩
  · rw [c1] at HS
    subst c2
    clear hc
    go_enter Try.func17, Try.ntmps17
    go_wp2_with fail
    refine (unhide HS).mono ?_
    rintro e w1 ⟨rfl, hb1⟩
    have HB := hide hb1
    have k2 := ((unhide HI).below hb1).c2
    have HA := hide (another_yes ((unhide HI).below hb1) (unhide HO) who)
    rw [c3] at HA
    clear hb1
    go_wp2_with fail
    refine (unhide HA).mono ?_
    rintro e wq ⟨rfl, rfl⟩
    go_wp2
    go_ret
    exact ⟨rfl, unhide HB⟩
  · rw [c1] at HS
    subst c2
    obtain ⟨k, rfl, hk5, hkn, hks⟩ := Vt.other_nat (unhide HO) c3
    rw [Int.toNat_natCast] at c4
    have hk0 : (0 : Int) ≤ (k : Int) := by omega
    have hk6 : (k : Int) < 5 := by omega
    clear hc
    go_enter Try.func17, Try.ntmps17
    go_wp2_with fail
    refine (unhide HS).mono ?_
    rintro e w1 ⟨rfl, hb1⟩
    have HB := hide hb1
    have k2 := ((unhide HI).below hb1).c2
    have k4 := ((unhide HI).below hb1).cv k hk5
    rw [c4] at k4
    have HA := hide (another_yes ((unhide HI).below hb1) (unhide HO) k)
    rw [c3] at HA
    clear hb1
    go_wp2_with fail
    refine (unhide HA).mono ?_
    rintro e wq ⟨rfl, rfl⟩
    go_wp2
    go_ret
    exact ⟨rfl, unhide HB⟩

set_option maxHeartbeats 800000 in
theorem count_is {h : Nat} {V : Vt} {w : World} (H : IsV w h V) (O : V.Ok) (who term : Int) (yes : Bool) (hc : V.counts who term yes = true) :
    Calls Try.prog 17 #[P0 h, .int .i64 who, .int .i64 term, .bool yes] w fun e w' => e = .returned (.bool (!V.won && (V.setVt who.toNat true).won)) ∧ IsV w' h (V.setVt who.toNat true) ∧ Upd (One h) w.heap.size w w' := by
  have HS := hide (standing_yes H O)
  have HI := hide H
  have HO := hide O
  clear H O
  obtain ⟨rfl, c1, c2, c3, c4⟩ := Vt.counts_is hc
  rw [c1] at HS
  subst c2
  obtain ⟨k, rfl, hk5, hkn, hks⟩ := Vt.other_nat (unhide HO) c3
  rw [Int.toNat_natCast] at c4 ⊢
  have hk0 : (0 : Int) ≤ (k : Int) := by omega
  have hk6 : (k : Int) < 5 := by omega
  clear hc
  go_enter Try.func17, Try.ntmps17
  go_wp2_with fail
  refine (unhide HS).mono ?_
  rintro e w1 ⟨rfl, hb1⟩
  have HB := hide hb1
  have k2 := ((unhide HI).below hb1).c2
  have k4 := ((unhide HI).below hb1).cv k hk5
  rw [c4] at k4
  have HA := hide (another_yes ((unhide HI).below hb1) (unhide HO) k)
  rw [c3] at HA
  have HW := hide (won_any ((unhide HI).below hb1) (unhide HO))
  clear hb1
  go_wp2_with fail
  refine (unhide HA).mono ?_
  rintro e wq ⟨rfl, rfl⟩
  go_wp2_with fail
  refine (unhide HW).mono ?_
  rintro e w2 ⟨rfl, hb2⟩
  have hb02 := (unhide HB).trans (hb2.mono (unhide HB).size)
  have HI2 := hide ((unhide HI).below hb02)
  have q4 := (unhide HI2).cv k hk5; have qf := (unhide HI2).fr
  have HI3 := hide ((unhide HI2).setVt k hk5 true)
  have HU3 : Hid (Upd (One h) w.heap.size w (w2.setCell ⟨h, 4 + k, none⟩ (.bool true))) := (Upd.of hb02).one _
  have HW3 := hide (won_any (unhide HI3) ((unhide HO).setVtc k))
  clear hb2 hb02 k2 k4 HW HA HS
  cases hw : V.won
  · go_wp2_with fail
    refine (unhide HW3).mono ?_
    rintro e w3 ⟨rfl, hb3⟩
    have HF : Hid (IsV w3 h (V.setVt k true) ∧ Upd (One h) w.heap.size w w3) := ⟨(unhide HI3).below hb3, (unhide HU3).trans ((Upd.of hb3).less (unhide HU3).size)⟩
    clear hb3
    go_wp2
    go_ret
    exact ⟨ret_bool (by first | (simp; done) | simp [hw]), unhide HF⟩
  · go_wp2
    go_ret
    exact ⟨ret_bool (by first | (simp; done) | simp [hw]), unhide HI3, unhide HU3⟩

set_option maxHeartbeats 400000 in
theorem count_no {v : Value} {w : World} (H : IsZero w v) (who term : Int) :
    Calls Try.prog 17 #[v, .int .i64 who, .int .i64 term, .bool true] w fun e w' => e = .returned (.bool false) ∧ Below w.heap.size w w' := by
  have HS := hide (standing_no H.no)
  clear H
  go_enter Try.func17, Try.ntmps17
  go_wp2_with fail
  refine (unhide HS).mono ?_
  rintro e w1 ⟨rfl, hb1⟩
  have HB := hide hb1
  clear hb1
  go_wp2
  go_ret
  exact ⟨rfl, unhide HB⟩
end Go.Proofs.Ytpadbbkklmgimaa
