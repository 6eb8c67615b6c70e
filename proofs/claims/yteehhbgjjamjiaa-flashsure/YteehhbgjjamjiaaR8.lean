/- Spoil, of the program and of the document. -/
import Derived.Test.YteehhbgjjamjiaaR7
import Derived.Laws.BitsAllLaws
namespace Go.Proofs.Yteehhbgjjamjiaa
open Go.RowKit

theorem xorB (u x : Int) (h0 : 0 ≤ u) (h1 : u ≤ 255) (x0 : 0 ≤ x) (x1 : x ≤ 255) : 0 ≤ bits .xor .u8 u x ∧ bits .xor .u8 u x ≤ 255 := by
  rw [u8_xor u x h0 (by omega) x0 (by omega)]
  have : u.toNat ^^^ x.toNat < 2 ^ 8 := Nat.xor_lt_two_pow (by omega) (by omega)
  omega

/-- The bytes with one turned. -/
def turn (zs : List Int) (a : Nat) (x : Int) : List Int := zs.set a (bits .xor .u8 (zs.getD a 0) x)
theorem turn_length (zs : List Int) (a : Nat) (x : Int) : (turn zs a x).length = zs.length := by simp [turn]
theorem turn_byt {zs : List Int} (h : Byt zs) (a : Nat) (x : Int) (x0 : 0 ≤ x) (x1 : x ≤ 255) : Byt (turn zs a x) := by
  intro b hb
  rcases List.mem_or_eq_of_mem_set hb with hb | rfl
  · exact h b hb
  · have := h.get a
    exact xorB _ _ this.1 this.2 x0 x1

def Fl.spoil (F : Fl) (i j a x : Int) : Int × Fl :=
  if F.down = true then (7, F) else if ¬ F.within i j then (1, F) else if ¬ (0 ≤ a ∧ a < 256) then (1, F) else if F.st i.toNat j.toNat = 2 then (0, F.setBs i.toNat j.toNat (strOf (turn (bytesOf (F.bs i.toNat j.toNat)) a.toNat x)))
  else (if F.st i.toNat j.toNat = 1 then 22 else 21, F)

theorem Own8.set {B : Nat} {w : World} {g cap n : Nat} {ys : List Int} (h : Own8 B w (.slice (some ⟨g, 0, none⟩) n cap) ys) (a : Nat) (ha : a < ys.length) (u : Int) : Own8 B (w.setCell ⟨g, a, none⟩ (.int .u8 u)) (.slice (some ⟨g, 0, none⟩) n cap) (ys.set a u) := by
  obtain ⟨g', cap', e, h1, h2, h3, h4⟩ := h
  simp only [Value.slice.injEq, Option.some.injEq, Addr.mk.injEq, and_true] at e
  obtain ⟨rfl, rfl, rfl⟩ := e
  refine ⟨g, cap, by rw [List.length_set], by rw [List.length_set]; exact h1, h2, fun t ht => ?_, fun t ht => ?_⟩
  · rw [List.length_set] at ht
    by_cases c : a = t
    · subst c
      rw [cs_same (h3 a ha)]
      simp [List.getD, ha]
    · rw [cs_other (addr_ne (Or.inr c)), h3 t ht]
      simp [List.getD, c]
  · rw [List.length_set] at ht
    rw [World.frozen?_setCell]; exact h4 t ht

set_option maxHeartbeats 400000 in
theorem spoil_err' {v : Value} {i j a wth er : Int} {w : World} (he : er ≠ 0) (HF : Calls Try.prog 46 #[v, .int .i64 i, .int .i64 j] w fun e w' => e = .returned (.tuple #[.pointer none, .int .i64 er]) ∧ w = w') :
    Calls Try.prog 31 #[v, .int .i64 i, .int .i64 j, .int .i64 a, .int .u8 wth] w fun e w' => e = .returned (.int .i64 er) ∧ w = w' := by
  have HF := hide HF
  go_enter Try.func31, Try.ntmps31
  go_wp2_with (first
    | (go_at_call 46; refine (unhide HF).mono ?_; rintro e w' ⟨rfl, rfl⟩))
  go_ret
  exact ⟨rfl, rfl⟩

set_option maxRecDepth 100000 in
set_option maxHeartbeats 1600000 in
theorem spoil_arg {g h cap : Nat} {F : Fl} {w : World} (H : IsFl w g h cap F) (hd : F.down = false) (i j : Nat) (hi : i < F.n) (hj : j < 16) (a x : Int) (ha : ¬ (0 ≤ a ∧ a < 256)) :
    Calls Try.prog 31 #[P0 h, .int .i64 i, .int .i64 j, .int .i64 a, .int .u8 x] w fun e w' => e = .returned (.int .i64 1) ∧ w = w' := by
  have HF := hide (find_yes H hd i j hi hj)
  clear H
  have h' : a < 0 ∨ 256 ≤ a := by omega
  clear ha
  rcases h' with h' | h'
  all_goals
    go_enter Try.func31, Try.ntmps31
    go_wp2_with fail
    refine (unhide HF).mono ?_
    rintro e w1 ⟨rfl, rfl⟩
    go_wp2
    go_ret
    exact ⟨rfl, rfl⟩

set_option maxRecDepth 100000 in
set_option maxHeartbeats 1600000 in
theorem spoil_not {g h cap : Nat} {F : Fl} {w : World} (H : IsFl w g h cap F) (hd : F.down = false) (i j : Nat) (hi : i < F.n) (hj : j < 16) (a : Nat) (x : Int) (ha : a < 256) (hs : F.st i j ≠ 2) :
    Calls Try.prog 31 #[P0 h, .int .i64 i, .int .i64 j, .int .i64 a, .int .u8 x] w fun e w' => e = .returned (.int .i64 (if F.st i j = 1 then 22 else 21)) ∧ w = w' := by
  have HF := hide (find_yes H hd i j hi hj)
  have h1 := H.st i j hi hj
  have HM := hide (missing_any g (i * 33 + j * 2) (F.st i j) w h1)
  obtain ⟨er, her⟩ : ∃ er : Int, (if F.st i j = 1 then 22 else 21) = er := ⟨_, rfl⟩
  rw [her] at HM ⊢
  clear H her
  go_enter Try.func31, Try.ntmps31
  go_wp2_with fail
  refine (unhide HF).mono ?_
  rintro e w1 ⟨rfl, rfl⟩
  go_wp2_with fail
  refine (unhide HM).mono ?_
  rintro e w1 ⟨rfl, rfl⟩
  go_wp2
  go_ret
  exact ⟨rfl, rfl⟩

set_option maxRecDepth 100000 in
set_option maxHeartbeats 1600000 in
theorem spoil_ok {g h cap : Nat} {F : Fl} {w : World} (H : IsFl w g h cap F) (hd : F.down = false) (i j : Nat) (hi : i < F.n) (hj : j < 16) (a : Nat) (x : Int) (ha : a < 256) (x0 : 0 ≤ x) (x1 : x ≤ 255) (hs : F.st i j = 2) (hz : (F.bs i j).size = 256) :
    Calls Try.prog 31 #[P0 h, .int .i64 i, .int .i64 j, .int .i64 a, .int .u8 x] w fun e w' => e = .returned (.int .i64 0) ∧ IsFl w' g h cap (F.setBs i j (strOf (turn (bytesOf (F.bs i j)) a x))) ∧ Upd (Two g h) w.heap.size w w' := by
  have HF := hide (find_yes H hd i j hi hj)
  have h1 := H.st i j hi hj; rw [hs] at h1
  have h2 := H.bs i j hi hj
  have hfr := H.frG
  have hgl := H.glt
  have hge := grownCap_ge w (F.bs i j).size 0 5
  have hO := own8_new w (F.bs i j) _ hge (row_size _ _ hge)
  have hbl := bytesOf_length (F.bs i j)
  have hby := bytesOf_byt (F.bs i j)
  have hv := run_bytes_of_string (P := Try.prog) w 9 28 5 (F.bs i j) Try.underlying9 Try.underlying28 Try.underlying5
  obtain ⟨w1, hw1⟩ : ∃ w1, w.drew.alloc (.cells (bytesRow (F.bs i j) (grownCap w (F.bs i j).size 0 5)) 5 ((bytesRow (F.bs i j) (grownCap w (F.bs i j).size 0 5)).size, (bytesRow (F.bs i j) (grownCap w (F.bs i j).size 0 5)).size + 1)) = w1 := ⟨_, rfl⟩
  rw [hw1] at hv hO
  have hb1 : Below w.heap.size w w1 := by rw [← hw1]; exact (Below.refl _ _).drew.alloc (Nat.le_refl _) _
  have HI1 := hide (H.below hb1)
  have HB1 := hide hb1
  obtain ⟨cgr, hcgr⟩ : ∃ c, grownCap w (F.bs i j).size 0 5 = c := ⟨_, rfl⟩
  rw [hcgr] at hv hO hge
  rw [hz] at hv hO hbl hge
  have HO := hide hO
  obtain ⟨g', cap', e, hq2, hq3, hc, hf⟩ := id hO
  simp only [Value.slice.injEq, Option.some.injEq, Addr.mk.injEq, and_true] at e
  obtain ⟨rfl, hq1, rfl⟩ := e
  have ca := hc a (by omega)
  have fa := hf a (by omega)
  have q2 := (H.below hb1).bs i j hi hj
  have q3 := (H.below hb1).frG
  have HU1 : Hid (Own8 w.heap.size (w1.setCell ⟨w.heap.size, a, none⟩ (.int .u8 (bits .xor .u8 ((bytesOf (F.bs i j)).getD a 0) x))) (.slice (some ⟨w.heap.size, 0, none⟩) 256 cgr) (turn (bytesOf (F.bs i j)) a x)) := hO.set a (by omega) _
  obtain ⟨u, hu⟩ : ∃ u, (bytesOf (F.bs i j)).getD a 0 = u := ⟨_, rfl⟩
  have hub := hby.get a
  rw [hu] at ca HU1 hub
  have hcv := run_conv_sees (P := Try.prog) (w1.setCell ⟨w.heap.size, a, none⟩ (.int .u8 (bits .xor .u8 u x))) 28 9 5 (.slice (some ⟨w.heap.size, 0, none⟩) 256 cgr) (turn (bytesOf (F.bs i j)) a x) Try.underlying28 Try.underlying5 Try.underlying9 (unhide HU1).sees (turn_byt hby a x x0 x1)
  have HFin := hide (((H.below hb1).other w.heap.size a (.int .u8 (bits .xor .u8 u x)) (by omega) (by have := H.hlt; omega)).setBs i j hi hj (strOf (turn (bytesOf (F.bs i j)) a x)))
  obtain ⟨sz, hsz⟩ : ∃ sz, strOf (turn (bytesOf (F.bs i j)) a x) = sz := ⟨_, rfl⟩
  rw [hsz] at hcv HFin ⊢
  obtain ⟨hub0, hub1⟩ := hub
  have hgne : w.heap.size ≠ g := by omega
  clear H hw1 hcgr hO hc hf hb1 hu hsz hbl hby hs hz hq1 hq2 hq3
  go_enter Try.func31, Try.ntmps31
  go_wp2_with fail
  refine (unhide HF).mono ?_
  rintro e w2 ⟨rfl, rfl⟩
  go_wp2
  go_ret
  exact ⟨rfl, unhide HFin, ((Upd.of (unhide HB1)).setCell (Or.inr (Nat.le_refl _)) _).setCell (Or.inl (Or.inl rfl)) _⟩

theorem spoil_all {g h cap : Nat} {F : Fl} {w : World} (H : IsFl w g h cap F) (hok : ∀ i j, i < F.n → j < 16 → F.st i j = 2 → (F.bs i j).size = 256) (i j a x : Int) (x0 : 0 ≤ x) (x1 : x ≤ 255) :
    Calls Try.prog 31 #[P0 h, .int .i64 i, .int .i64 j, .int .i64 a, .int .u8 x] w fun e w' => e = .returned (.int .i64 (F.spoil i j a x).1) ∧ IsFl w' g h cap (F.spoil i j a x).2 ∧ Upd (Two g h) w.heap.size w w' := by
  unfold Fl.spoil
  have same : ∀ er : Int, (Calls Try.prog 31 #[P0 h, .int .i64 i, .int .i64 j, .int .i64 a, .int .u8 x] w fun e w' => e = .returned (.int .i64 er) ∧ w = w') → Calls Try.prog 31 #[P0 h, .int .i64 i, .int .i64 j, .int .i64 a, .int .u8 x] w fun e w' => e = .returned (.int .i64 er) ∧ IsFl w' g h cap F ∧ Upd (Two g h) w.heap.size w w' := fun er h => h.mono (by
    rintro e w' ⟨rfl, rfl⟩
    exact ⟨rfl, H, Upd.refl _ _ _⟩)
  by_cases hd : F.down = true
  · rw [if_pos hd]; exact same 7 (spoil_err' (by decide) (find_down H hd i j))
  rw [if_neg hd]
  have hd' : F.down = false := by simpa using hd
  by_cases hw : F.within i j
  · rw [if_neg (not_not_intro hw)]
    obtain ⟨h1, h2, h3, h4⟩ := hw
    obtain ⟨i, rfl⟩ := nat_of h1
    obtain ⟨j, rfl⟩ := nat_of h3
    have hi : i < F.n := by omega
    have hj : j < 16 := by omega
    simp only [Int.toNat_natCast]
    by_cases ha : 0 ≤ a ∧ a < 256
    · rw [if_neg (not_not_intro ha)]
      obtain ⟨a, rfl⟩ := nat_of ha.1
      rw [Int.toNat_natCast]
      by_cases hs : F.st i j = 2
      · rw [if_pos hs]
        exact spoil_ok H hd' i j hi hj a x (by omega) x0 x1 hs (hok i j hi hj hs)
      · rw [if_neg hs]
        exact same _ (spoil_not H hd' i j hi hj a x (by omega) hs)
    · rw [if_pos ha]; exact same 1 (spoil_arg H hd' i j hi hj a x ha)
  · rw [if_pos hw]; exact same 1 (spoil_err' (by decide) (find_arg H hd' i j hw))

variable {w : World} {S : Nat → Prop} {hr gp gw cp cw : Nat} {pb cb : Nat → Nat} {bv : Nat → Nat → Value} {F : Fl} {kp : Int}

set_option maxHeartbeats 800000 in
theorem rspoil_err (H : IsRf w S hr gp gw cp cw pb cb bv F kp) (i j a x er : Int) (he : F.look i j = er) (h0 : er ≠ 0) :
    Calls Try.prog 40 #[P0 hr, .int .i64 i, .int .i64 j, .int .i64 a, .int .u8 x] w fun e w' => e = .returned (.int .i64 er) ∧ Below w.heap.size w w' := by
  have HL := hide (look_any H i j)
  rw [he] at HL
  clear H he
  go_enter Try.func40, Try.ntmps40
  go_wp2_with fail
  refine (unhide HL).mono ?_
  rintro e w1 ⟨rfl, rfl⟩
  go_wp2
  go_ret
  exact ⟨rfl, Below.refl _ _⟩

set_option maxRecDepth 100000 in
set_option maxHeartbeats 800000 in
theorem rspoil_arg (H : IsRf w S hr gp gw cp cw pb cb bv F kp) (i j a x : Int) (he : F.look i j = 0) (ha : ¬ (0 ≤ a ∧ a < 256)) :
    Calls Try.prog 40 #[P0 hr, .int .i64 i, .int .i64 j, .int .i64 a, .int .u8 x] w fun e w' => e = .returned (.int .i64 1) ∧ Below w.heap.size w w' := by
  have HL := hide (look_any H i j)
  rw [he] at HL
  clear H he
  have h' : a < 0 ∨ 256 ≤ a := by omega
  clear ha
  rcases h' with h' | h'
  all_goals
    go_enter Try.func40, Try.ntmps40
    go_wp2_with fail
    refine (unhide HL).mono ?_
    rintro e w1 ⟨rfl, rfl⟩
    go_wp2
    go_ret
    exact ⟨rfl, Below.refl _ _⟩

set_option maxRecDepth 100000 in
set_option maxHeartbeats 1600000 in
theorem rspoil_not (H : IsRf w S hr gp gw cp cw pb cb bv F kp) (i j a : Nat) (x : Int) (hi : i < F.n) (hj : j < 16) (he : F.look i j = 0) (ha : a < 256) (hs : F.st i j ≠ 2) :
    Calls Try.prog 40 #[P0 hr, .int .i64 i, .int .i64 j, .int .i64 a, .int .u8 x] w fun e w' => e = .returned (.int .i64 (if F.st i j = 1 then 22 else 21)) ∧ Below w.heap.size w w' := by
  have HL := hide (look_any H i j)
  rw [he] at HL
  have HA := hide (at_any H i j hi hj)
  have eA : F.atE i j = if F.st i j = 1 then 22 else 21 := by
    unfold Fl.atE
    rcases H.stOk i j hi hj with h | h | h
    · rw [h]; rfl
    · rw [h]; rfl
    · exact absurd h hs
  have e0 : F.atE i j ≠ 0 := by rw [eA]; split <;> decide
  rw [← eA]
  obtain ⟨er, her⟩ : ∃ er, F.atE i j = er := ⟨_, rfl⟩
  rw [her] at HA e0 ⊢
  clear H he her eA hs
  go_enter Try.func40, Try.ntmps40
  go_wp2_with fail
  refine (unhide HL).mono ?_
  rintro e w1 ⟨rfl, rfl⟩
  go_wp2_with fail
  refine (unhide HA).mono ?_
  rintro e w1 ⟨rfl, hb1⟩
  have HB := hide hb1
  clear hb1
  go_wp2
  go_ret
  exact ⟨rfl, unhide HB⟩

end Go.Proofs.Yteehhbgjjamjiaa
