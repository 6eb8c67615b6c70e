/- Several texts as one. -/
import Derived.Test.YtggllgimlfchhabGreatKQ
import Derived.Test.YtggllgimlfchhabGreatKU
import Derived.Test.YtggllgimlfchhabGreatKP

/- Contracts of Seal and of the reader's sealed bytes. -/
namespace Go.Proofs.YtggllgimlfchhabGreat
open Go.RowKit
set_option maxRecDepth 100000

/-- Sealed bytes. -/
def sealB (zs : List Int) : List Int := putL [(zs.length : Int)] ++ zs ++ lowL 8 (chkF c0 zs)

set_option maxHeartbeats 400000 in
theorem seal_long (ao : Option Addr) (len cap : Nat) (w : World) (h : 1048576 < len) (hm : len ≤ 140737488355328) :
    Calls Tryz.prog 35 #[.slice ao len cap] w fun e w' => e = .returned (.tuple #[.slice none 0 0, .int .i64 3]) ∧ w = w' := by
  go_enter Tryz.func35, Tryz.ntmps35
  go_wp2
  go_ret2
  exact ⟨rfl, rfl⟩

set_option maxHeartbeats 800000 in
theorem seal_ok (bv : Value) (zs : List Int) (w : World) (hs : Sees w .u8 bv zs) (hby : Byt zs) (hm : zs.length ≤ 1048576) :
    Calls Tryz.prog 35 #[bv] w fun e w' => ∃ x, e = .returned (.tuple #[x, .int .i64 0]) ∧ w'.ownsRow w.heap.size 5 1 x (sealB zs).length (ints .u8 (sealB zs)) ∧ Below w.heap.size w w' := by
  have HB := hide (blob_any (.slice none 0 0) bv [] zs w (Sees.nil _ _) hs (by simp; omega))
  have HC := hide (fun w' (h : Below w.heap.size w w') => check_one w' bv zs (hs.below h) hby (by omega))
  obtain ⟨hc1, hc2⟩ := chkF_bounds c0 zs c0_bounds.1 c0_bounds.2
  have h9 := sizeL_le [(zs.length : Int)]
  have hsl : (sealB zs).length = sizeL [(zs.length : Int)] + zs.length + 8 := by simp only [sealB, List.length_append, putL_length, lowL_length]
  have HSL := hide hsl
  clear hsl
  obtain ⟨ao, cap, rfl, hlc, hnil, hc⟩ := hs
  clear hc
  have HS : Hid (sealB zs = putL [(zs.length : Int)] ++ zs ++ lowL 8 (chkF c0 zs)) := rfl
  generalize chkF c0 zs = c at *
  go_enter Tryz.func35, Tryz.ntmps35
  go_wp2_with (go_at_call 72; refine (unhide HB).mono ?_; rintro e w1 ⟨x1, rfl, ho1, hb1⟩)
  have ho1' : w1.ownsRow w.heap.size 5 1 x1 (sizeL [(zs.length : Int)] + zs.length) (ints .u8 (putL [(zs.length : Int)] ++ zs)) := by simpa using ho1
  clear ho1
  go_wp2_with (go_at_call 73; refine (unhide HC w1 hb1).mono ?_; rintro e w1' ⟨rfl, rfl⟩)
  have hsz := hb1.size
  simp only [List.length_singleton] at h9
  refine (putLow_any w.heap.size x1 _ _ c 8 _ hc1 (by omega) (by omega) (ho1'.alloc _) (by simp; omega)).mono ?_
  rintro e w2 ⟨x2, rfl, ho2, hk2⟩
  go_wp2
  go_ret2
  exact ⟨x2, rfl, by rw [HSL.out, HS.out]; exact ho2, (hb1.alloc hsz _).trans hk2.below⟩

/-- What is sealed in the bytes with which others begin, how many all of them are, and what is wrong with them. -/
def tu (l : List Int) : List Int × Nat × Int :=
  if (tn l).2.2 ≠ 0 then ([], 0, (tn l).2.2)
  else if (tn l).1 < 0 then ([], 0, 11)
  else if 1048576 < (tn l).1 then ([], 0, 3)
  else if (l.length : Int) - (tn l).2.1 < (tn l).1 + 8 then ([], 0, 10)
  else if valL ((l.drop ((tn l).2.1 + (tn l).1.toNat)).take 8) ≠ chkF c0 ((l.drop (tn l).2.1).take (tn l).1.toNat) then ([], 0, 12)
  else ((l.drop (tn l).2.1).take (tn l).1.toNat, (tn l).2.1 + (tn l).1.toNat + 8, 0)

set_option maxHeartbeats 400000 in
theorem sealR_num (R : Nat) (er : Int) (w : World) (HN : Hid (Calls Tryz.prog 111 #[.pointer (some ⟨R, 0, none⟩)] w fun e w' => e = GiveUp er ∧ Below R w w')) :
    Calls Tryz.prog 75 #[.pointer (some ⟨R, 0, none⟩)] w fun e w' => e = GiveUp er ∧ Below R w w' := by
  go_enter Tryz.func75, Tryz.ntmps75
  go_wp2_with fail
  refine (unhide HN).mono ?_
  rintro e w1 ⟨rfl, hb⟩
  exact ⟨rfl, rfl, hb⟩

set_option maxHeartbeats 400000 in
theorem sealR_neg (R : Nat) (n : Int) (w : World) (hn : n < 0) (HN : Hid (Calls Tryz.prog 111 #[.pointer (some ⟨R, 0, none⟩)] w fun e w' => e = .returned (.int .i64 n) ∧ Below R w w')) :
    Calls Tryz.prog 75 #[.pointer (some ⟨R, 0, none⟩)] w fun e w' => e = GiveUp 11 ∧ Below R w w' := by
  go_enter Tryz.func75, Tryz.ntmps75
  go_wp2_with (go_at_call 111; refine (unhide HN).mono ?_; rintro e w1 ⟨rfl, hb⟩)
  rw [show decide (0 ≤ n) = false from decide_eq_false (by omega)]
  refine (must_no _ _).mono ?_
  rintro e w2 ⟨rfl, rfl⟩
  exact ⟨rfl, rfl, hb⟩

set_option maxHeartbeats 400000 in
theorem sealR_long (R : Nat) (n : Int) (w : World) (hn : 1048576 < n) (HN : Hid (Calls Tryz.prog 111 #[.pointer (some ⟨R, 0, none⟩)] w fun e w' => e = .returned (.int .i64 n) ∧ Below R w w')) :
    Calls Tryz.prog 75 #[.pointer (some ⟨R, 0, none⟩)] w fun e w' => e = GiveUp 3 ∧ Below R w w' := by
  have h0 : 0 ≤ n := by omega
  go_enter Tryz.func75, Tryz.ntmps75
  go_wp2_with (first
    | (go_at_call 111; refine (unhide HN).mono ?_; rintro e w1 ⟨rfl, hb⟩)
    | (go_at_call_of 112 (Value.bool true); refine (must_ok _ _).mono ?_; rintro e w2 ⟨rfl, rfl⟩))
  rw [show decide (n ≤ 1048576) = false from decide_eq_false (by omega)]
  refine (must_no _ _).mono ?_
  rintro e w2 ⟨rfl, rfl⟩
  exact ⟨rfl, rfl, hb⟩

set_option maxHeartbeats 800000 in
theorem sealR_short1 (R : Nat) (v : Value) (zs : List Int) (p : Nat) (n : Int) (w : World) (hs : SeesB R w .u8 v zs) (hm : zs.length ≤ 140737488355328) (hp : p ≤ zs.length) (h0 : 0 ≤ n) (h1 : n ≤ 1048576) (hn : (zs.length : Int) - p < n)
    (HN : Hid (Calls Tryz.prog 111 #[.pointer (some ⟨R, 0, none⟩)] w fun e w' => e = .returned (.int .i64 n) ∧ Below R w w' ∧ AtR w' R v p)) :
    Calls Tryz.prog 75 #[.pointer (some ⟨R, 0, none⟩)] w fun e w' => e = GiveUp 10 ∧ Below R w w' := by
  have HX := hide (fun w' (h : Below R w w') (ha : AtR w' R v p) => next_no R v zs p n w' ha (hs.below h (Nat.le_refl _)) hm hp hn)
  clear hn
  go_enter Tryz.func75, Tryz.ntmps75
  go_wp2_with (first
    | (go_at_call 111; refine (unhide HN).mono ?_; rintro e w1 ⟨rfl, hb, hat⟩)
    | (go_at_call_of 112 (Value.bool true); refine (must_ok _ _).mono ?_; rintro e w2 ⟨rfl, rfl⟩))
  refine (unhide HX w1 hb hat).mono ?_
  rintro e w2 ⟨rfl, hb2⟩
  exact ⟨rfl, rfl, hb.trans hb2⟩

set_option maxHeartbeats 800000 in
theorem sealR_short2 (R : Nat) (v : Value) (zs : List Int) (p k : Nat) (n : Int) (w : World) (hk : n = k) (hs : SeesB R w .u8 v zs) (hm : zs.length ≤ 140737488355328) (h1 : k ≤ 1048576) (hp : p + k ≤ zs.length) (hn : (zs.length : Int) - (p + k) < 8)
    (HN : Hid (Calls Tryz.prog 111 #[.pointer (some ⟨R, 0, none⟩)] w fun e w' => e = .returned (.int .i64 n) ∧ Below R w w' ∧ AtR w' R v p)) :
    Calls Tryz.prog 75 #[.pointer (some ⟨R, 0, none⟩)] w fun e w' => e = GiveUp 10 ∧ Below R w w' := by
  subst hk
  have HX := hide (fun w' (h : Below R w w') (ha : AtR w' R v p) => next_ok R v zs p k _ w' rfl ha (hs.below h (Nat.le_refl _)) hm hp)
  have HL := hide (fun w' (h : Below R w w') (ha : AtR w' R v (p + k)) => low_no R v zs (p + k) 8 w' ha (hs.below h (Nat.le_refl _)) hm (by omega) (by omega))
  clear hn
  have h1' : (k : Int) ≤ 1048576 := by omega
  have h0' : (0 : Int) ≤ (k : Int) := by omega
  go_enter Tryz.func75, Tryz.ntmps75
  go_wp2_with (first
    | (go_at_call 111; refine (unhide HN).mono ?_; rintro e w1 ⟨rfl, hb, hat⟩)
    | (go_at_call_of 112 (Value.bool true); refine (must_ok _ _).mono ?_; rintro e w2 ⟨rfl, rfl⟩)
    | (go_at_call 113; refine (unhide HX w1 hb hat).mono ?_; rintro e w3 ⟨rv, rfl, hsr, hat3, hb3, hz3⟩))
  refine (unhide HL w3 (hb.trans hb3) hat3).mono ?_
  rintro e w4 ⟨rfl, hb4⟩
  exact ⟨rfl, rfl, (hb.trans hb3).trans hb4⟩

set_option maxHeartbeats 800000 in
theorem sealR_bad (R : Nat) (v : Value) (zs : List Int) (p k : Nat) (n : Int) (w : World) (hk : n = k) (hs : SeesB R w .u8 v zs) (hby : Byt zs) (hm : zs.length ≤ 140737488355328) (h1 : k ≤ 1048576) (hp : p + k + 8 ≤ zs.length) (hR : R < w.heap.size)
    (hbad : valL ((zs.drop (p + k)).take 8) ≠ chkF c0 ((zs.drop p).take k))
    (HN : Hid (Calls Tryz.prog 111 #[.pointer (some ⟨R, 0, none⟩)] w fun e w' => e = .returned (.int .i64 n) ∧ Below R w w' ∧ AtR w' R v p)) :
    Calls Tryz.prog 75 #[.pointer (some ⟨R, 0, none⟩)] w fun e w' => e = GiveUp 12 ∧ Below R w w' := by
  subst hk
  have hbb : Byt ((zs.drop p).take k) := (hby.drop p).take k
  have hlen : ((zs.drop p).take k).length = k := by simp; omega
  have HX := hide (fun w' (h : Below R w w') (ha : AtR w' R v p) => next_ok R v zs p k _ w' rfl ha (hs.below h (Nat.le_refl _)) hm (by omega))
  have HL := hide (fun w' (h : Below R w w') (ha : AtR w' R v (p + k)) => low_ok R v zs (p + k) 8 8 w' rfl ha (hs.below h (Nat.le_refl _)) hby hm (by omega) hp)
  have h1' : (k : Int) ≤ 1048576 := by omega
  have h0' : (0 : Int) ≤ (k : Int) := by omega
  generalize (zs.drop p).take k = bs at *
  generalize valL ((zs.drop (p + k)).take 8) = s at *
  have HC := hide (fun (rv : Value) w' (hx : Sees w' .u8 rv bs) => check_one w' rv bs hx hbb (by omega))
  generalize chkF c0 bs = c at *
  have hneq : (s == c) = false := beq_eq_false_iff_ne.2 hbad
  clear hbad hlen
  go_enter Tryz.func75, Tryz.ntmps75
  go_wp2_with (first
    | (go_at_call 111; refine (unhide HN).mono ?_; rintro e w1 ⟨rfl, hb, hat⟩)
    | (go_at_call_of 112 (Value.bool true); refine (must_ok _ _).mono ?_; rintro e w2 ⟨rfl, rfl⟩)
    | (go_at_call 113; refine (unhide HX w1 hb hat).mono ?_; rintro e w3 ⟨rv, rfl, hsr, hat3, hb3, hz3⟩; have HZ3 := hide hz3; clear hz3; have hsr0 := hsr; obtain ⟨ao3, cap3, hv3, _⟩ := hsr; subst hv3)
    | (go_at_call 114; refine (unhide HL w3 (hb.trans hb3) hat3).mono ?_; rintro e w4 ⟨rfl, hat4, hb4, hz4⟩; have HZ4 := hide hz4; clear hz4)
    | (go_at_call 73; refine (unhide HC _ w4 (hsr0.below hb4 (Nat.le_refl _)).sees).mono ?_; rintro e w5 ⟨rfl, rfl⟩))
  refine (must_no _ _).mono ?_
  rintro e w6 ⟨rfl, rfl⟩
  have hbw4 := (hb.trans hb3).trans hb4
  exact ⟨rfl, rfl, hbw4.alloc (Nat.le_trans (by omega) hbw4.size) _⟩

set_option maxHeartbeats 800000 in
theorem sealR_ok (R : Nat) (v : Value) (zs : List Int) (p k : Nat) (n : Int) (w : World) (hk : n = k) (hs : SeesB R w .u8 v zs) (hby : Byt zs) (hm : zs.length ≤ 140737488355328) (h1 : k ≤ 1048576) (hp : p + k + 8 ≤ zs.length) (hR : R < w.heap.size)
    (hgood : valL ((zs.drop (p + k)).take 8) = chkF c0 ((zs.drop p).take k))
    (HN : Hid (Calls Tryz.prog 111 #[.pointer (some ⟨R, 0, none⟩)] w fun e w' => e = .returned (.int .i64 n) ∧ Below R w w' ∧ AtR w' R v p ∧ OnlyR R w w')) :
    Calls Tryz.prog 75 #[.pointer (some ⟨R, 0, none⟩)] w fun e w' => ∃ x, e = .returned x ∧ AtR w' R v (p + k + 8) ∧ Below R w w' ∧ w'.ownsRow w.heap.size 5 1 x k (ints .u8 ((zs.drop p).take k)) := by
  subst hk
  have hbb : Byt ((zs.drop p).take k) := (hby.drop p).take k
  have hlen : ((zs.drop p).take k).length = k := by simp; omega
  have HX := hide (fun w' (h : Below R w w') (ha : AtR w' R v p) => next_ok R v zs p k _ w' rfl ha (hs.below h (Nat.le_refl _)) hm (by omega))
  have HL := hide (fun w' (h : Below R w w') (ha : AtR w' R v (p + k)) => low_ok R v zs (p + k) 8 8 w' rfl ha (hs.below h (Nat.le_refl _)) hby hm (by omega) hp)
  have h1' : (k : Int) ≤ 1048576 := by omega
  have h0' : (0 : Int) ≤ (k : Int) := by omega
  generalize (zs.drop p).take k = bs at *
  generalize valL ((zs.drop (p + k)).take 8) = s at *
  have HC := hide (fun (rv : Value) w' (hx : Sees w' .u8 rv bs) => check_one w' rv bs hx hbb (by omega))
  generalize chkF c0 bs = c at *
  have hneq : (s == c) = true := beq_iff_eq.2 hgood
  have HLEN := hide hlen
  clear hgood hlen
  go_enter Tryz.func75, Tryz.ntmps75
  go_wp2_with (first
    | (go_at_call 111; refine (unhide HN).mono ?_; rintro e w1 ⟨rfl, hb, hat, hz1⟩; have HZ1 := hide hz1; clear hz1)
    | (go_at_call_of 112 (Value.bool true); refine (must_ok _ _).mono ?_; rintro e w2 ⟨rfl, rfl⟩)
    | (go_at_call 113; refine (unhide HX w1 hb hat).mono ?_; rintro e w3 ⟨rv, rfl, hsr, hat3, hb3, hz3⟩; have HZ3 := hide hz3; clear hz3; have hsr0 := hsr; obtain ⟨ao3, cap3, hv3, _⟩ := hsr; subst hv3)
    | (go_at_call 114; refine (unhide HL w3 (hb.trans hb3) hat3).mono ?_; rintro e w4 ⟨rfl, hat4, hb4, hz4⟩; have HZ4 := hide hz4; clear hz4)
    | (go_at_call 73; refine (unhide HC _ w4 (hsr0.below hb4 (Nat.le_refl _)).sees).mono ?_; rintro e w5 ⟨rfl, rfl⟩))
  have hbw4 := (hb.trans hb3).trans hb4
  have hzw : w4.heap.size = w.heap.size := ((HZ1.out.trans HZ3.out).trans HZ4.out).1
  have hs5 : Sees (w4.alloc (.cells #[.slice ao3 bs.length cap3] 26)) .u8 (.slice ao3 bs.length cap3) bs := (hsr0.below hb4 (Nat.le_refl _)).sees.below ((Below.refl _ _).alloc (Nat.le_refl _) _)
  refine (copied_int _ bs 0 _ hs5 (by omega) (by rw [HLEN.out]; omega)).mono ?_
  rintro e w6 ⟨x, rfl, ho, hb6⟩
  rw [HLEN.out] at ho
  have hb46 : Below w4.heap.size w4 w6 := ((Below.refl _ _).alloc (Nat.le_refl _) _).trans (hb6.mono (by simp))
  have hat6 : AtR w6 R v (p + k + 8) := (hb46.block R (by omega)).trans hat4
  go_wp2
  go_ret
  exact ⟨_, rfl, hat6, hbw4.trans (hb46.mono (by omega)), own_mono ho (by simp; omega)⟩

end Go.Proofs.YtggllgimlfchhabGreat

/- Eight bytes and the number that they are. -/
namespace Go.Proofs.YtggllgimlfchhabGreat
open Go.RowKit

theorem val_low (bs : List Int) (hb : Byt bs) (hl : bs.length = 8) (c : Int) (h0 : 0 ≤ c) (h1 : c ≤ 18446744073709551615) : lowL 8 c = bs ↔ valL bs = c := by
  constructor
  · intro h
    rw [← h]
    exact valL_low 8 c h0 (by rw [B256_8]; omega)
  · intro h
    rw [← h, ← hl]
    exact low_valL bs hb
end Go.Proofs.YtggllgimlfchhabGreat
