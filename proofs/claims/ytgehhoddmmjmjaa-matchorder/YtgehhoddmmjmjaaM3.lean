/- Told, New, Clone. -/
import Derived.Test.YtgehhoddmmjmjaaM2
namespace Go.Proofs.Ytgehhoddmmjmjaa
open Go.RowKit

def Bk.tell (B : Bk) (i : Nat) (yes : Bool) (s : Int) : Bk := if yes then B.on i s else B.back i s
theorem Bk.Ok.tell {B : Bk} (O : B.Ok) {i : Nat} (hi : i < B.n) (hs : i ≠ B.self) {yes : Bool} {s : Int} (h1 : yes = true → s ≤ B.lk B.self) : (B.tell i yes s).Ok := by
  cases yes
  · exact O.back hi hs s
  · exact O.on hi hs (h1 rfl)

set_option maxHeartbeats 800000 in
theorem told_ok {h : Nat} {B : Bk} {w : World} (H : IsB w h B) (O : B.Ok) (i : Nat) (hi : i < B.n) (hs : i ≠ B.self) (yes : Bool) (s : Int) (h0 : 0 ≤ s) (h1 : yes = true → s ≤ B.lk B.self) :
    Calls Try.prog 18 #[P0 h, .int .i64 i, .bool yes, .int .i64 s] w fun e w' => e = .returned (.tuple #[.bool (decide (B.agreed < (B.tell i yes s).agreed)), .int .i64 0]) ∧ IsB w' h (B.tell i yes s) ∧ Upd (One h) w.heap.size w w' := by
  have hle := O.le
  have hi5 : i < 5 := by omega
  have hz : (0 : Int) ≤ (i : Int) := by omega
  have hy : (i : Int) < 5 := by omega
  have HA := hide (another_yes H O i)
  rw [Bk.who_yes (Bk.other_nat hi hs)] at HA
  have HL := hide (length_yes H O)
  have HG := hide (agreed_yes H O)
  have HH := hide H
  have HO := hide (O.tell hi hs (yes := yes) (s := s) h1)
  clear H O
  cases yes
  · clear h1
    by_cases c : B.lk B.self < s
    all_goals
      go_enter Try.func18, Try.ntmps18
      go_wp2_with (first
        | (go_at_call 33; refine (unhide HA).mono ?_; rintro e w' ⟨rfl, rfl⟩)
        | (go_at_call 14; refine (unhide HL).mono ?_; rintro e w' ⟨rfl, rfl⟩)
        | fail)
      refine (unhide HG).mono ?_
      rintro e w1 ⟨rfl, hb1⟩
      have H1 := (unhide HH).below hb1
      have HK := hide (back_any H1 i hi5 s)
      have HB1 := hide hb1
      clear hb1 H1
      go_wp2_with fail
      refine (unhide HK).mono ?_
      rintro e w2 ⟨rfl, H2, hu2⟩
      have HU2 := hide hu2
      have HG2 := hide (agreed_yes H2 (unhide HO))
      have HH2 := hide H2
      clear H2 hu2
      go_wp2_with fail
      refine (unhide HG2).mono ?_
      rintro e w3 ⟨rfl, hb3⟩
      have HX : Hid (IsB w3 h (B.tell i false s) ∧ Upd (One h) w.heap.size w w3) := ⟨(unhide HH2).below hb3, ((Upd.of (unhide HB1)).trans ((unhide HU2).less (unhide HB1).size)).trans ((Upd.of hb3).less (Nat.le_trans (unhide HB1).size (unhide HU2).size))⟩
      clear hb3
      go_wp2
      go_ret2
      exact ⟨rfl, unhide HX⟩
  · have h2 := h1 rfl
    clear h1
    go_enter Try.func18, Try.ntmps18
    go_wp2_with (first
      | (go_at_call 33; refine (unhide HA).mono ?_; rintro e w' ⟨rfl, rfl⟩)
      | (go_at_call 14; refine (unhide HL).mono ?_; rintro e w' ⟨rfl, rfl⟩)
      | fail)
    refine (unhide HG).mono ?_
    rintro e w1 ⟨rfl, hb1⟩
    have H1 := (unhide HH).below hb1
    have HK := hide (on_any H1 i hi5 s)
    have HB1 := hide hb1
    clear hb1 H1
    go_wp2_with fail
    refine (unhide HK).mono ?_
    rintro e w2 ⟨rfl, H2, hu2⟩
    have HU2 := hide hu2
    have HG2 := hide (agreed_yes H2 (unhide HO))
    have HH2 := hide H2
    clear H2 hu2
    go_wp2_with fail
    refine (unhide HG2).mono ?_
    rintro e w3 ⟨rfl, hb3⟩
    have HX : Hid (IsB w3 h (B.tell i true s) ∧ Upd (One h) w.heap.size w w3) := ⟨(unhide HH2).below hb3, ((Upd.of (unhide HB1)).trans ((unhide HU2).less (unhide HB1).size)).trans ((Upd.of hb3).less (Nat.le_trans (unhide HB1).size (unhide HU2).size))⟩
    clear hb3
    go_wp2
    go_ret2
    exact ⟨rfl, unhide HX⟩

set_option maxHeartbeats 400000 in
theorem told_who {h : Nat} {B : Bk} {w : World} (H : IsB w h B) (O : B.Ok) (x : Int) (hx : B.other x = false) (yes : Bool) (s : Int) :
    Calls Try.prog 18 #[P0 h, .int .i64 x, .bool yes, .int .i64 s] w fun e w' => e = .returned (.tuple #[.bool false, .int .i64 80]) ∧ w = w' := by
  have HA := hide (another_yes H O x)
  rw [Bk.who_no hx] at HA
  clear H O
  go_enter Try.func18, Try.ntmps18
  go_wp2_with (first
    | (go_at_call 33; refine (unhide HA).mono ?_; rintro e w' ⟨rfl, rfl⟩))
  go_ret2
  exact ⟨rfl, rfl⟩

set_option maxHeartbeats 400000 in
theorem told_arg {h : Nat} {B : Bk} {w : World} (H : IsB w h B) (O : B.Ok) (x : Int) (hx : B.other x = true) (yes : Bool) (s : Int) (hs : s < 0 ∨ (yes = true ∧ B.lk B.self < s)) :
    Calls Try.prog 18 #[P0 h, .int .i64 x, .bool yes, .int .i64 s] w fun e w' => e = .returned (.tuple #[.bool false, .int .i64 1]) ∧ w = w' := by
  have HA := hide (another_yes H O x)
  rw [Bk.who_yes hx] at HA
  have HL := hide (length_yes H O)
  clear H O
  by_cases c : s < 0
  · clear hs
    go_enter Try.func18, Try.ntmps18
    go_wp2_with (first
      | (go_at_call 33; refine (unhide HA).mono ?_; rintro e w' ⟨rfl, rfl⟩)
      | (go_at_call 14; refine (unhide HL).mono ?_; rintro e w' ⟨rfl, rfl⟩))
    go_ret2
    exact ⟨rfl, rfl⟩
  · obtain ⟨rfl, c2⟩ : yes = true ∧ B.lk B.self < s := by rcases hs with h | h; exact absurd h c; exact h
    go_enter Try.func18, Try.ntmps18
    go_wp2_with (first
      | (go_at_call 33; refine (unhide HA).mono ?_; rintro e w' ⟨rfl, rfl⟩)
      | (go_at_call 14; refine (unhide HL).mono ?_; rintro e w' ⟨rfl, rfl⟩))
    go_ret2
    exact ⟨rfl, rfl⟩

set_option maxHeartbeats 400000 in
theorem told_no {v : Value} {w : World} (H : IsNo w v) (x s : Int) (yes : Bool) :
    Calls Try.prog 18 #[v, .int .i64 x, .bool yes, .int .i64 s] w fun e w' => e = .returned (.tuple #[.bool false, .int .i64 2]) ∧ w = w' := by
  have HM := hide (another_no H x)
  clear H
  go_enter Try.func18, Try.ntmps18
  go_wp2_with (go_at_call 33; refine (unhide HM).mono ?_; rintro e w' ⟨rfl, rfl⟩)
  go_ret2
  exact ⟨rfl, rfl⟩

theorem isB_block {w : World} {h : Nat} {B : Bk} (hb : w.heap[h]? = some (.cells #[.int .i64 B.n, .int .i64 B.self, .int .i64 (B.nx 0), .int .i64 (B.lk 0), .int .i64 (B.nx 1), .int .i64 (B.lk 1), .int .i64 (B.nx 2), .int .i64 (B.lk 2), .int .i64 (B.nx 3), .int .i64 (B.lk 3), .int .i64 (B.nx 4), .int .i64 (B.lk 4)] 52 (0, 0))) : IsB w h B := by
  have c := fun o => cell_of_row w h o _ _ _ hb
  refine ⟨c 0, c 1, fun i hi => ?_, fun i hi => ?_, fun o => by unfold World.frozen?; rw [hb]; simp⟩
  · rcases (show i = 0 ∨ i = 1 ∨ i = 2 ∨ i = 3 ∨ i = 4 by omega) with rfl | rfl | rfl | rfl | rfl
    · exact c 2
    · exact c 4
    · exact c 6
    · exact c 8
    · exact c 10
  · rcases (show i = 0 ∨ i = 1 ∨ i = 2 ∨ i = 3 ∨ i = 4 by omega) with rfl | rfl | rfl | rfl | rfl
    · exact c 3
    · exact c 5
    · exact c 7
    · exact c 9
    · exact c 11
theorem isB_new {W : World} (y : World) (h : Nat) (B : Bk) (hh : y.heap.size = h) (hW : W = y.alloc (.cells #[.int .i64 B.n, .int .i64 B.self, .int .i64 (B.nx 0), .int .i64 (B.lk 0), .int .i64 (B.nx 1), .int .i64 (B.lk 1), .int .i64 (B.nx 2), .int .i64 (B.lk 2), .int .i64 (B.nx 3), .int .i64 (B.lk 3), .int .i64 (B.nx 4), .int .i64 (B.lk 4)] 52)) : IsB W h B := by
  subst hh hW
  exact isB_block (heap_alloc_new _ _)

set_option maxHeartbeats 400000 in
theorem clone_any {h : Nat} {B : Bk} {w : World} (H : IsB w h B) (O : B.Ok) :
    Calls Try.prog 22 #[P0 h] w fun e w' => e = .returned (P0 w.heap.size) ∧ IsB w' w.heap.size B ∧ Below w.heap.size w w' := by
  have h0 := H.c0; have h1 := H.c1
  have v0 := H.cn 0 (by decide); have v1 := H.cn 1 (by decide); have v2 := H.cn 2 (by decide); have v3 := H.cn 3 (by decide); have v4 := H.cn 4 (by decide)
  have u0 := H.cl 0 (by decide); have u1 := H.cl 1 (by decide); have u2 := H.cl 2 (by decide); have u3 := H.cl 3 (by decide); have u4 := H.cl 4 (by decide)
  have HM := hide (made_yes H O)
  have hlt := H.lt
  clear H O
  go_enter Try.func22, Try.ntmps22
  go_wp2_with (first
      | (go_at_call 30; refine (unhide HM).mono ?_; rintro e w' ⟨rfl, rfl⟩))
  go_ret
  exact ⟨rfl, isB_new w _ B rfl rfl, (Below.refl _ _).alloc (Nat.le_refl _) _⟩

set_option maxHeartbeats 400000 in
theorem clone_no {v : Value} {w : World} (H : IsNo w v) :
    Calls Try.prog 22 #[v] w fun e w' => e = .returned (.pointer none) ∧ w = w' := by
  have HM := hide (made_no H)
  clear H
  go_enter Try.func22, Try.ntmps22
  go_wp2_with (go_at_call 30; refine (unhide HM).mono ?_; rintro e w' ⟨rfl, rfl⟩)
  go_ret
  exact ⟨rfl, rfl⟩

/-- What New takes. -/
def okNew (n s l : Int) : Bool := decide (1 ≤ n) && decide (n ≤ 5) && decide (0 ≤ s) && decide (s < n) && decide (0 ≤ l) && decide (l ≤ 1099511627776)
theorem okNew_is {n s l : Int} (h : okNew n s l = true) : ∃ n' s' : Nat, n = n' ∧ s = s' ∧ 1 ≤ n' ∧ n' ≤ 5 ∧ s' < n' ∧ 0 ≤ l ∧ l ≤ 1099511627776 := by
  simp only [okNew, Bool.and_eq_true, decide_eq_true_eq] at h
  exact ⟨n.toNat, s.toNat, by omega, by omega, by omega, by omega, by omega, by omega, by omega⟩
theorem okNew_not {n s l : Int} (h : okNew n s l = false) : n < 1 ∨ (1 ≤ n ∧ 5 < n) ∨ (1 ≤ n ∧ n ≤ 5 ∧ s < 0) ∨ (1 ≤ n ∧ n ≤ 5 ∧ 0 ≤ s ∧ n ≤ s) ∨ (1 ≤ n ∧ n ≤ 5 ∧ 0 ≤ s ∧ s < n ∧ l < 0) ∨ (1 ≤ n ∧ n ≤ 5 ∧ 0 ≤ s ∧ s < n ∧ 0 ≤ l ∧ 1099511627776 < l) := by
  simp only [okNew, Bool.and_eq_false_iff, decide_eq_false_iff_not] at h
  omega

/-- A new book; what it is while its numbers are put in. -/
def Bk.new (n s : Nat) (l : Int) : Bk := ⟨n, s, fun i => if i < n then l else 0, fun i => if i = s then l else 0⟩
def Bk.newTo (n s : Nat) (l : Int) (k : Nat) : Bk := ⟨n, s, fun i => if i < k then l else 0, fun _ => 0⟩
theorem Bk.new_ok {n s : Nat} {l : Int} (h0 : 1 ≤ n) (h1 : n ≤ 5) (h3 : s < n) (h4 : 0 ≤ l) (h5 : l ≤ 1099511627776) : (Bk.new n s l).Ok := by
  refine ⟨h0, h1, h3, ?_, fun i hi => ?_, fun i hi => ?_, fun i hi => ?_, ?_⟩
  · simp [Bk.new, h3]
  · simp only [Bk.new]; split <;> omega
  · have : i < n := hi
    simp only [Bk.new]; rw [if_pos this]; split <;> omega
  · have : i < n := hi
    simp only [Bk.new]; rw [if_pos this]; simp
  · simp [Bk.new]; exact h5

def NewAt (w : World) (n s : Nat) (l : Int) (c : Value) (wr : World) : Prop :=
  ∃ k : Nat, k ≤ n ∧ c = .int .i64 k ∧ IsB wr (w.heap.size + 1) (Bk.newTo n s l k) ∧ Below (w.heap.size + 1) (w.alloc (.cells #[.int .i64 n, .int .i64 s] 23)) wr

set_option maxRecDepth 100000 in
set_option maxHeartbeats 800000 in
theorem new_ok (w : World) (n s : Nat) (l : Int) (h0 : 1 ≤ n) (h1 : n ≤ 5) (h3 : s < n) (h4 : 0 ≤ l) (h5 : l ≤ 1099511627776) :
    Calls Try.prog 8 #[.agg #[.int .i64 n, .int .i64 s], .int .i64 l] w fun e w' => e = .returned (.tuple #[P0 (w.heap.size + 1), .int .i64 0]) ∧ IsB w' (w.heap.size + 1) (Bk.new n s l) ∧ Below w.heap.size w w' := by
  go_enter Try.func8, Try.ntmps8
  go_wp2
  go_loopw [41] (fun c wr => NewAt w n s l c wr) (fun c _ => n - (intOf c).toNat)
  case atStart => exact ⟨0, Nat.zero_le _, rfl, isB_new _ _ (Bk.newTo n s l 0) (by simp) rfl, (Below.refl _ _).alloc (by simp) _⟩
  case round =>
    obtain ⟨k, hk, rfl, hI, hB⟩ := hrel
    by_cases hlt : k < n
    · have hc := hI.cn k (by omega)
      have hf := hI.fr
      have hk0 : (0 : Int) ≤ (k : Int) := by omega
      have hk5 : (k : Int) < 5 := by omega
      have HX : Hid (NewAt w n s l (.int .i64 ((k : Int) + 1)) (wr.setCell ⟨w.heap.size + 1, 2 + k * 2, none⟩ (.int .i64 l))) := by
        refine ⟨k + 1, by omega, by simp, (hI.setNx k (by omega) l).ext rfl rfl (fun i hi => ?_) (fun _ _ => rfl), hB.setCell (p := ⟨w.heap.size + 1, 2 + k * 2, none⟩) (Nat.le_refl _) _⟩
        simp only [Bk.newTo, set1]
        by_cases c : i = k
        · subst c; simp
        · rw [if_neg c]; by_cases c2 : i < k
          · rw [if_pos c2, if_pos (by omega)]
          · rw [if_neg c2, if_neg (by omega)]
      clear hI hB
      go_wp2
      go_roundw
      case rel => exact unhide HX
      case measure => simp [intOf]; omega
    · obtain rfl : k = n := by omega
      have hs0 : (0 : Int) ≤ (s : Int) := by omega
      have hs5 : (s : Int) < 5 := by omega
      have hc := hI.cl s (by omega)
      have hf := hI.fr
      have hq : wr.cell? ⟨w.heap.size, 1, none⟩ = some (.int .i64 s) := by
        rw [hB.cell (p := ⟨w.heap.size, 1, none⟩) (by simp)]; simp [go_sem]
      have HX : Hid (IsB (wr.setCell ⟨w.heap.size + 1, 2 + s * 2 + 1, none⟩ (.int .i64 l)) (w.heap.size + 1) (Bk.new k s l)) :=
        (hI.setLk s (by omega) l).ext rfl rfl (fun _ _ => rfl) (fun _ _ => rfl)
      have HY : Hid (Below w.heap.size w (wr.setCell ⟨w.heap.size + 1, 2 + s * 2 + 1, none⟩ (.int .i64 l))) :=
        (((Below.refl _ _).alloc (Nat.le_refl _) _).trans (hB.mono (by simp))).setCell (p := ⟨w.heap.size + 1, 2 + s * 2 + 1, none⟩) (by simp) _
      clear hI hB
      go_wp2
      go_region
      go_wp2
      go_ret2
      exact ⟨rfl, (unhide HX).drew, (unhide HY).drew⟩

set_option maxHeartbeats 400000 in
theorem new_arg (w : World) (n s l : Int) (h : okNew n s l = false) :
    Calls Try.prog 8 #[.agg #[.int .i64 n, .int .i64 s], .int .i64 l] w fun e w' => e = .returned (.tuple #[.pointer none, .int .i64 1]) ∧ Below w.heap.size w w' := by
  rcases okNew_not h with c | ⟨c, c1⟩ | ⟨c, c1, c2⟩ | ⟨c, c1, c2, c3⟩ | ⟨c, c1, c2, c3, c4⟩ | ⟨c, c1, c2, c3, c4, c5⟩
  all_goals
    clear h
    go_enter Try.func8, Try.ntmps8
    go_wp2
    go_ret2
    exact ⟨rfl, (Below.refl _ _).alloc (Nat.le_refl _) _⟩

end Go.Proofs.Ytgehhoddmmjmjaa
