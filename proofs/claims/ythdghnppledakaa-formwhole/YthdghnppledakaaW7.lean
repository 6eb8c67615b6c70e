/- The contract of the reader's number. -/
import Derived.Test.YthdghnppledakaaW6
import Derived.Deep.RegionWith
namespace Go.Proofs.Ythdghnppledakaa
open Go.RowKit

theorem neg_u (u : Int) (h0 : 0 ≤ u) (h1 : u ≤ 9223372036854775808) : wrap64 (IntKind.u64.wrap (-u)) = -u := by
  rw [IntKind.wrap_u64]; unfold wrap64; omega

set_option maxHeartbeats 400000 in
theorem number_head (R : Nat) (v : Value) (zs : List Int) (p : Nat) (h : Int) (w : World) (hat : AtR w R v p) (hs : SeesB R w .u8 v zs) (hm : zs.length ≤ 9223372036854775807) (hp : p < zs.length) (hh : zs.getD p 0 = h) (h0 : 0 ≤ h) (h1 : h ≤ 255) (hbad : 17 < h ∨ h = 1) :
    Calls Try.prog 31 #[.pointer (some ⟨R, 0, none⟩)] w fun e w' => e = GiveUp 11 ∧ Below R w w' := by
  have HN := hide (next_one R v zs p h w hat hs hm hp hh)
  clear hh hat hs
  rcases hbad with hbad | rfl
  · go_enter Try.func31, Try.ntmps31
    go_wp2_with (go_at_call 46; refine (unhide HN).mono ?_; rintro e w1 ⟨a, cap, rfl, hc, hat1, hb1, hz1⟩)
    refine (must_no _ _).mono ?_
    rintro e w2 ⟨rfl, rfl⟩
    exact ⟨rfl, rfl, hb1⟩
  · go_enter Try.func31, Try.ntmps31
    go_wp2_with (go_at_call 46; refine (unhide HN).mono ?_; rintro e w1 ⟨a, cap, rfl, hc, hat1, hb1, hz1⟩)
    refine (must_no _ _).mono ?_
    rintro e w2 ⟨rfl, rfl⟩
    exact ⟨rfl, rfl, hb1⟩

set_option maxHeartbeats 400000 in
theorem number_end (R : Nat) (v : Value) (zs : List Int) (p : Nat) (w : World) (hat : AtR w R v p) (hs : SeesB R w .u8 v zs) (hm : zs.length ≤ 9223372036854775807) (hp : p = zs.length) :
    Calls Try.prog 31 #[.pointer (some ⟨R, 0, none⟩)] w fun e w' => e = GiveUp 10 ∧ Below R w w' := by
  have HN := hide (next_no R v zs p 1 w hat hs hm (by omega) (by omega))
  clear hp
  go_enter Try.func31, Try.ntmps31
  go_wp2_with fail
  refine (unhide HN).mono ?_
  rintro e w1 ⟨rfl, hb⟩
  exact ⟨rfl, rfl, hb⟩

set_option maxHeartbeats 400000 in
theorem number_short (R : Nat) (v : Value) (zs : List Int) (p : Nat) (h : Int) (w : World) (hat : AtR w R v p) (hs : SeesB R w .u8 v zs) (hm : zs.length ≤ 9223372036854775807) (hp : p < zs.length) (hh : zs.getD p 0 = h) (h0 : 0 ≤ h) (h17 : h ≤ 17) (hne : (h != 1) = true)
    (hsh : (zs.length : Int) - ((p + 1 : Nat) : Int) < h / 2) :
    Calls Try.prog 31 #[.pointer (some ⟨R, 0, none⟩)] w fun e w' => e = GiveUp 10 ∧ Below R w w' := by
  have HN := hide (next_one R v zs p h w hat hs hm hp hh)
  clear hh hat
  go_enter Try.func31, Try.ntmps31
  go_wp2_with (first
    | (go_at_call 46; refine (unhide HN).mono ?_; rintro e w1 ⟨a, cap, rfl, hc, hat1, hb1, hz1⟩; have HZ := hide hz1; clear hz1)
    | (go_at_call_of 47 (Value.bool true); refine (must_ok _ _).mono ?_; rintro e w2 ⟨rfl, rfl⟩))
  refine (low_no R v zs (p + 1) _ w1 hat1 (hs.below hb1 (Nat.le_refl _)) hm (by omega) hsh).mono ?_
  rintro e w2 ⟨rfl, hb2⟩
  exact ⟨rfl, rfl, hb1.trans hb2⟩

set_option maxHeartbeats 800000 in
theorem number_wide (R : Nat) (v : Value) (zs : List Int) (p : Nat) (h : Int) (k : Nat) (u : Int) (w : World) (hat : AtR w R v p) (hs : SeesB R w .u8 v zs) (hby : Byt zs) (hm : zs.length ≤ 9223372036854775807) (hh : zs.getD p 0 = h) (h0 : 0 ≤ h) (h17 : h ≤ 17) (hne : (h != 1) = true)
    (hk : h / 2 = k) (hp : p + 1 + k ≤ zs.length) (hu : valL ((zs.drop (p + 1)).take k) = u)
    (hw : ((wid u : Int) == h / 2) = false) :
    Calls Try.prog 31 #[.pointer (some ⟨R, 0, none⟩)] w fun e w' => e = GiveUp 11 ∧ Below R w w' := by
  have HN := hide (next_one R v zs p h w hat hs hm (by omega) hh)
  have HU := hide hu
  have HK := hide hk
  have hv := valL_bound ((zs.drop (p + 1)).take k) ((hby.drop _).take _)
  have hB : B256 ((zs.drop (p + 1)).take k).length ≤ B256 8 := B256_mono _ _ (by simp; omega)
  rw [B256_8] at hB
  rw [hu] at hv
  have hu0 : 0 ≤ u := hv.1
  have hu1 : u ≤ 18446744073709551615 := by omega
  clear hh hat hu hk hv hB
  go_enter Try.func31, Try.ntmps31
  go_wp2_with (first
    | (go_at_call 46; refine (unhide HN).mono ?_; rintro e w1 ⟨a, cap, rfl, hc, hat1, hb1, hz1⟩; have HZ := hide hz1; clear hz1)
    | (go_at_call_of 47 (Value.bool true); refine (must_ok _ _).mono ?_; rintro e w2 ⟨rfl, rfl⟩)
    | (go_at_call 48; refine (low_ok R v zs (p + 1) k _ w1 (unhide HK) hat1 (hs.below hb1 (Nat.le_refl _)) hby hm (by have := unhide HK; omega) hp).mono ?_; rintro e w2 ⟨rfl, hat2, hb2, hz2⟩; have HZ2 := hide hz2; clear hz2; rw [unhide HU])
    | (go_at_call 35; refine (wid_any _ hu0 hu1 _).mono ?_; rintro e w3 ⟨rfl, rfl⟩))
  refine (must_no _ _).mono ?_
  rintro e w4 ⟨rfl, rfl⟩
  exact ⟨rfl, rfl, hb1.trans hb2⟩

set_option maxHeartbeats 800000 in
theorem number_neg_no (R : Nat) (v : Value) (zs : List Int) (p : Nat) (h : Int) (k : Nat) (u : Int) (w : World) (hat : AtR w R v p) (hs : SeesB R w .u8 v zs) (hby : Byt zs) (hm : zs.length ≤ 9223372036854775807) (hh : zs.getD p 0 = h) (h0 : 0 ≤ h) (h17 : h ≤ 17) (hne : (h != 1) = true)
    (hk : h / 2 = k) (hp : p + 1 + k ≤ zs.length) (hu : valL ((zs.drop (p + 1)).take k) = u)
    (hw : ((wid u : Int) == h / 2) = true) (ho : (h % 2 == 1) = true) (hbig : 9223372036854775808 < u) :
    Calls Try.prog 31 #[.pointer (some ⟨R, 0, none⟩)] w fun e w' => e = GiveUp 11 ∧ Below R w w' := by
  have HN := hide (next_one R v zs p h w hat hs hm (by omega) hh)
  have HU := hide hu
  have HK := hide hk
  have hv := valL_bound ((zs.drop (p + 1)).take k) ((hby.drop _).take _)
  have hB : B256 ((zs.drop (p + 1)).take k).length ≤ B256 8 := B256_mono _ _ (by simp; omega)
  rw [B256_8] at hB
  rw [hu] at hv
  have hu0 : 0 ≤ u := hv.1
  have hu1 : u ≤ 18446744073709551615 := by omega
  clear hh hat hu hk hv hB
  go_enter Try.func31, Try.ntmps31
  go_wp2_with (first
    | (go_at_call 46; refine (unhide HN).mono ?_; rintro e w1 ⟨a, cap, rfl, hc, hat1, hb1, hz1⟩; have HZ := hide hz1; clear hz1)
    | (go_at_call_of 47 (Value.bool true); refine (must_ok _ _).mono ?_; rintro e w2 ⟨rfl, rfl⟩)
    | (go_at_call 48; refine (low_ok R v zs (p + 1) k _ w1 (unhide HK) hat1 (hs.below hb1 (Nat.le_refl _)) hby hm (by have := unhide HK; omega) hp).mono ?_; rintro e w2 ⟨rfl, hat2, hb2, hz2⟩; have HZ2 := hide hz2; clear hz2; rw [unhide HU])
    | (go_at_call 35; refine (wid_any _ hu0 hu1 _).mono ?_; rintro e w3 ⟨rfl, rfl⟩))
  rw [show decide (u ≤ 9223372036854775808) = false from decide_eq_false (by omega)]
  refine (must_no _ _).mono ?_
  rintro e w4 ⟨rfl, rfl⟩
  exact ⟨rfl, rfl, hb1.trans hb2⟩

set_option maxHeartbeats 800000 in
theorem number_pos_no (R : Nat) (v : Value) (zs : List Int) (p : Nat) (h : Int) (k : Nat) (u : Int) (w : World) (hat : AtR w R v p) (hs : SeesB R w .u8 v zs) (hby : Byt zs) (hm : zs.length ≤ 9223372036854775807) (hh : zs.getD p 0 = h) (h0 : 0 ≤ h) (h17 : h ≤ 17) (hne : (h != 1) = true)
    (hk : h / 2 = k) (hp : p + 1 + k ≤ zs.length) (hu : valL ((zs.drop (p + 1)).take k) = u)
    (hw : ((wid u : Int) == h / 2) = true) (ho : (h % 2 == 1) = false) (hbig : 9223372036854775808 ≤ u) :
    Calls Try.prog 31 #[.pointer (some ⟨R, 0, none⟩)] w fun e w' => e = GiveUp 11 ∧ Below R w w' := by
  have HN := hide (next_one R v zs p h w hat hs hm (by omega) hh)
  have HU := hide hu
  have HK := hide hk
  have hv := valL_bound ((zs.drop (p + 1)).take k) ((hby.drop _).take _)
  have hB : B256 ((zs.drop (p + 1)).take k).length ≤ B256 8 := B256_mono _ _ (by simp; omega)
  rw [B256_8] at hB
  rw [hu] at hv
  have hu0 : 0 ≤ u := hv.1
  have hu1 : u ≤ 18446744073709551615 := by omega
  clear hh hat hu hk hv hB
  go_enter Try.func31, Try.ntmps31
  go_wp2_with (first
    | (go_at_call 46; refine (unhide HN).mono ?_; rintro e w1 ⟨a, cap, rfl, hc, hat1, hb1, hz1⟩; have HZ := hide hz1; clear hz1)
    | (go_at_call_of 47 (Value.bool true); refine (must_ok _ _).mono ?_; rintro e w2 ⟨rfl, rfl⟩)
    | (go_at_call 48; refine (low_ok R v zs (p + 1) k _ w1 (unhide HK) hat1 (hs.below hb1 (Nat.le_refl _)) hby hm (by have := unhide HK; omega) hp).mono ?_; rintro e w2 ⟨rfl, hat2, hb2, hz2⟩; have HZ2 := hide hz2; clear hz2; rw [unhide HU])
    | (go_at_call 35; refine (wid_any _ hu0 hu1 _).mono ?_; rintro e w3 ⟨rfl, rfl⟩))
  rw [show decide (u < 9223372036854775808) = false from decide_eq_false (by omega)]
  refine (must_no _ _).mono ?_
  rintro e w4 ⟨rfl, rfl⟩
  exact ⟨rfl, rfl, hb1.trans hb2⟩

set_option maxHeartbeats 800000 in
theorem number_neg_ok (R : Nat) (v : Value) (zs : List Int) (p : Nat) (h : Int) (k : Nat) (u : Int) (w : World) (hat : AtR w R v p) (hs : SeesB R w .u8 v zs) (hby : Byt zs) (hm : zs.length ≤ 9223372036854775807) (hh : zs.getD p 0 = h) (h0 : 0 ≤ h) (h17 : h ≤ 17) (hne : (h != 1) = true)
    (hk : h / 2 = k) (hp : p + 1 + k ≤ zs.length) (hu : valL ((zs.drop (p + 1)).take k) = u)
    (hw : ((wid u : Int) == h / 2) = true) (ho : (h % 2 == 1) = true) (hsm : u ≤ 9223372036854775808) :
    Calls Try.prog 31 #[.pointer (some ⟨R, 0, none⟩)] w fun e w' => e = .returned (.int .i64 (-u)) ∧ AtR w' R v (p + 1 + k) ∧ Below R w w' ∧ OnlyR R w w' := by
  have HN := hide (next_one R v zs p h w hat hs hm (by omega) hh)
  have HU := hide hu
  have HK := hide hk
  have hv := valL_bound ((zs.drop (p + 1)).take k) ((hby.drop _).take _)
  have hB : B256 ((zs.drop (p + 1)).take k).length ≤ B256 8 := B256_mono _ _ (by simp; omega)
  rw [B256_8] at hB
  rw [hu] at hv
  have hu0 : 0 ≤ u := hv.1
  have hu1 : u ≤ 18446744073709551615 := by omega
  clear hh hat hu hk hv hB
  go_enter Try.func31, Try.ntmps31
  go_wp2_with (first
    | (go_at_call 46; refine (unhide HN).mono ?_; rintro e w1 ⟨a, cap, rfl, hc, hat1, hb1, hz1⟩; have HZ := hide hz1; clear hz1)
    | (go_at_call_of 47 (Value.bool true); refine (must_ok _ _).mono ?_; rintro e w2 ⟨rfl, rfl⟩)
    | (go_at_call 48; refine (low_ok R v zs (p + 1) k _ w1 (unhide HK) hat1 (hs.below hb1 (Nat.le_refl _)) hby hm (by have := unhide HK; omega) hp).mono ?_; rintro e w2 ⟨rfl, hat2, hb2, hz2⟩; have HZ2 := hide hz2; clear hz2; rw [unhide HU])
    | (go_at_call 35; refine (wid_any _ hu0 hu1 _).mono ?_; rintro e w3 ⟨rfl, rfl⟩))
  go_ret
  exact ⟨ret_int (neg_u u hu0 hsm), hat2, hb1.trans hb2, (unhide HZ).trans (unhide HZ2)⟩

set_option maxHeartbeats 800000 in
theorem number_pos_ok (R : Nat) (v : Value) (zs : List Int) (p : Nat) (h : Int) (k : Nat) (u : Int) (w : World) (hat : AtR w R v p) (hs : SeesB R w .u8 v zs) (hby : Byt zs) (hm : zs.length ≤ 9223372036854775807) (hh : zs.getD p 0 = h) (h0 : 0 ≤ h) (h17 : h ≤ 17) (hne : (h != 1) = true)
    (hk : h / 2 = k) (hp : p + 1 + k ≤ zs.length) (hu : valL ((zs.drop (p + 1)).take k) = u)
    (hw : ((wid u : Int) == h / 2) = true) (ho : (h % 2 == 1) = false) (hsm : u < 9223372036854775808) :
    Calls Try.prog 31 #[.pointer (some ⟨R, 0, none⟩)] w fun e w' => e = .returned (.int .i64 u) ∧ AtR w' R v (p + 1 + k) ∧ Below R w w' ∧ OnlyR R w w' := by
  have HN := hide (next_one R v zs p h w hat hs hm (by omega) hh)
  have HU := hide hu
  have HK := hide hk
  have hv := valL_bound ((zs.drop (p + 1)).take k) ((hby.drop _).take _)
  have hB : B256 ((zs.drop (p + 1)).take k).length ≤ B256 8 := B256_mono _ _ (by simp; omega)
  rw [B256_8] at hB
  rw [hu] at hv
  have hu0 : 0 ≤ u := hv.1
  have hu1 : u ≤ 18446744073709551615 := by omega
  clear hh hat hu hk hv hB
  go_enter Try.func31, Try.ntmps31
  go_wp2_with (first
    | (go_at_call 46; refine (unhide HN).mono ?_; rintro e w1 ⟨a, cap, rfl, hc, hat1, hb1, hz1⟩; have HZ := hide hz1; clear hz1)
    | (go_at_call_of 47 (Value.bool true); refine (must_ok _ _).mono ?_; rintro e w2 ⟨rfl, rfl⟩)
    | (go_at_call 48; refine (low_ok R v zs (p + 1) k _ w1 (unhide HK) hat1 (hs.below hb1 (Nat.le_refl _)) hby hm (by have := unhide HK; omega) hp).mono ?_; rintro e w2 ⟨rfl, hat2, hb2, hz2⟩; have HZ2 := hide hz2; clear hz2; rw [unhide HU])
    | (go_at_call 35; refine (wid_any _ hu0 hu1 _).mono ?_; rintro e w3 ⟨rfl, rfl⟩))
  go_ret
  exact ⟨rfl, hat2, hb1.trans hb2, (unhide HZ).trans (unhide HZ2)⟩

/-- The number with which bytes begin, how many bytes it has, and what is wrong with them. -/
def tn : List Int → Int × Nat × Int
  | [] => (0, 0, 10)
  | h :: r =>
    if 17 < h ∨ h = 1 then (0, 0, 11)
    else if r.length < (h / 2).toNat then (0, 0, 10)
    else if wid (valL (r.take (h / 2).toNat)) ≠ (h / 2).toNat then (0, 0, 11)
    else if h % 2 = 1 then (if valL (r.take (h / 2).toNat) ≤ 9223372036854775808 then (-valL (r.take (h / 2).toNat), 1 + (h / 2).toNat, 0) else (0, 0, 11))
    else (if valL (r.take (h / 2).toNat) < 9223372036854775808 then (valL (r.take (h / 2).toNat), 1 + (h / 2).toNat, 0) else (0, 0, 11))

/-- What a reader's part answers: a value, and how far the reader is behind it; or it gives up. -/
def Reads (R : Nat) (v : Value) (p : Nat) (w : World) (er : Int) (k : Nat) (x : Value) (e : Ending) (w' : World) : Prop :=
  Below R w w' ∧ (er = 0 → e = .returned x ∧ AtR w' R v (p + k) ∧ OnlyR R w w') ∧ (er ≠ 0 → e = GiveUp er)

theorem reads_no {R : Nat} {v : Value} {p : Nat} {w : World} {er : Int} {k : Nat} {x : Value} {e : Ending} {w' : World} (hne : er ≠ 0) (h : e = GiveUp er ∧ Below R w w') : Reads R v p w er k x e w' :=
  ⟨h.2, fun h0 => absurd h0 hne, fun _ => h.1⟩

theorem number_any (R : Nat) (v : Value) (zs : List Int) (p : Nat) (w : World) (hat : AtR w R v p) (hs : SeesB R w .u8 v zs) (hby : Byt zs) (hm : zs.length ≤ 9223372036854775807) (hp : p ≤ zs.length) :
    Calls Try.prog 31 #[.pointer (some ⟨R, 0, none⟩)] w fun e w' => Reads R v p w (tn (zs.drop p)).2.2 (tn (zs.drop p)).2.1 (.int .i64 (tn (zs.drop p)).1) e w' := by
  by_cases hpl : p = zs.length
  · have ht : tn (zs.drop p) = (0, 0, 10) := by rw [List.drop_of_length_le (by omega)]; rfl
    rw [ht]
    exact (number_end R v zs p w hat hs hm (by omega)).mono fun e w' h => reads_no (by decide) h
  · have hd : zs.drop p = zs.getD p 0 :: zs.drop (p + 1) := by
      rw [List.drop_eq_getElem_cons (by omega)]; simp [List.getD, show p < zs.length by omega]
    have hg := hby.get p
    have hlen : (zs.drop (p + 1)).length = zs.length - (p + 1) := List.length_drop
    rw [hd]
    obtain ⟨h, hh⟩ : ∃ h, zs.getD p 0 = h := ⟨_, rfl⟩
    obtain ⟨k, hk⟩ : ∃ k, (h / 2).toNat = k := ⟨_, rfl⟩
    obtain ⟨u, hu⟩ : ∃ u, valL ((zs.drop (p + 1)).take k) = u := ⟨_, rfl⟩
    rw [hh] at hg ⊢
    simp only [tn, hk, hu, hlen]
    by_cases c1 : 17 < h ∨ h = 1
    · simp only [if_pos c1]
      exact (number_head R v zs p h w hat hs hm (by omega) hh hg.1 hg.2 c1).mono fun e w' h => reads_no (by decide) h
    have hne : (h != 1) = true := by rw [bne_iff_ne]; omega
    simp only [if_neg c1]
    by_cases c2 : zs.length - (p + 1) < k
    · simp only [if_pos c2]
      exact (number_short R v zs p h w hat hs hm (by omega) hh hg.1 (by omega) hne (by omega)).mono fun e w' h => reads_no (by decide) h
    simp only [if_neg c2]
    have hk2 : h / 2 = (k : Int) := by omega
    have hkk : p + 1 + k ≤ zs.length := by omega
    by_cases c3 : wid u ≠ k
    · simp only [if_pos c3]
      exact (number_wide R v zs p h k u w hat hs hby hm hh hg.1 (by omega) hne hk2 hkk hu (by rw [beq_eq_false_iff_ne]; omega)).mono fun e w' h => reads_no (by decide) h
    simp only [if_neg c3]
    have hw : ((wid u : Int) == h / 2) = true := by rw [beq_iff_eq]; omega
    by_cases c4 : h % 2 = 1
    · simp only [if_pos c4]
      have ho : (h % 2 == 1) = true := by rw [beq_iff_eq]; exact c4
      by_cases c5 : u ≤ 9223372036854775808
      · simp only [if_pos c5]
        refine (number_neg_ok R v zs p h k u w hat hs hby hm hh hg.1 (by omega) hne hk2 hkk hu hw ho c5).mono ?_
        rintro e w' ⟨rfl, h2, h3, h4⟩
        exact ⟨h3, fun _ => ⟨rfl, by rw [← Nat.add_assoc]; exact h2, h4⟩, fun h => absurd rfl h⟩
      · simp only [if_neg c5]
        exact (number_neg_no R v zs p h k u w hat hs hby hm hh hg.1 (by omega) hne hk2 hkk hu hw ho (by omega)).mono fun e w' h => reads_no (by decide) h
    · simp only [if_neg c4]
      have ho : (h % 2 == 1) = false := by rw [beq_eq_false_iff_ne]; exact c4
      by_cases c5 : u < 9223372036854775808
      · simp only [if_pos c5]
        refine (number_pos_ok R v zs p h k u w hat hs hby hm hh hg.1 (by omega) hne hk2 hkk hu hw ho c5).mono ?_
        rintro e w' ⟨rfl, h2, h3, h4⟩
        exact ⟨h3, fun _ => ⟨rfl, by rw [← Nat.add_assoc]; exact h2, h4⟩, fun h => absurd rfl h⟩
      · simp only [if_neg c5]
        exact (number_pos_no R v zs p h k u w hat hs hby hm hh hg.1 (by omega) hne hk2 hkk hu hw ho (by omega)).mono fun e w' h => reads_no (by decide) h

end Go.Proofs.Ythdghnppledakaa
