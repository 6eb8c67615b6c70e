/- Several texts as one. -/
import Derived.Test.YtiijbklaapaheaaGreatProg
import Derived.Test.YtiijbklaapaheaaGreatKQ
import Derived.Test.YtiijbklaapaheaaGreatKV
import Derived.WalkKit
import Derived.WalkSpells
import Derived.WalkLawsBesides
import Derived.Deep.QuietTactic
import Derived.BigQuiet

/- Contracts of the flash's small functions, of one that a call made and of one that none made. -/
namespace Go.Proofs.YtiijbklaapaheaaGreat
open Go.RowKit
set_option maxRecDepth 100000

/-- The pointer to a flash. -/
abbrev P0 (h : Nat) : Value := .pointer (some ⟨h, 0, none⟩)

theorem ret_bool {a b : Bool} (h : a = b) : Ending.returned (.bool a) = .returned (.bool b) := by rw [h]

set_option maxHeartbeats 400000 in
theorem made_yes {g h cap : Nat} {F : Fl} {w : World} (H : IsFl w g h cap F) :
    Calls Tryz.prog 29 #[P0 h] w fun e w' => e = .returned (.bool true) ∧ w = w' := by
  have h0 := H.pos; have h1 := H.ptr
  clear H
  go_enter Tryz.func29, Tryz.ntmps29
  go_wp2
  go_ret
  exact ⟨rfl, rfl⟩

set_option maxHeartbeats 400000 in
theorem made_no {v : Value} {w : World} (H : IsNo w v) :
    Calls Tryz.prog 29 #[v] w fun e w' => e = .returned (.bool false) ∧ w = w' := by
  rcases H with rfl | ⟨h, rfl, hc⟩
  · go_enter Tryz.func29, Tryz.ntmps29
    go_wp2
    go_ret
    exact ⟨rfl, rfl⟩
  · go_enter Tryz.func29, Tryz.ntmps29
    go_wp2
    go_ret
    exact ⟨rfl, rfl⟩

set_option maxHeartbeats 400000 in
theorem has_yes {g h cap : Nat} {F : Fl} {w : World} (H : IsFl w g h cap F) (b : Int) :
    Calls Tryz.prog 58 #[P0 h, .int .i64 b] w fun e w' => e = .returned (.bool (decide (0 ≤ b) && decide (b < F.n))) ∧ w = w' := by
  have h1 := H.ptr
  have HM := hide (made_yes H)
  clear H
  by_cases c0 : 0 ≤ b
  · go_enter Tryz.func58, Tryz.ntmps58
    go_wp2_with (go_at_call 29; refine (unhide HM).mono ?_; rintro e w' ⟨rfl, rfl⟩)
    go_ret
    exact ⟨ret_bool (by simp [c0]), rfl⟩
  · go_enter Tryz.func58, Tryz.ntmps58
    go_wp2_with (go_at_call 29; refine (unhide HM).mono ?_; rintro e w' ⟨rfl, rfl⟩)
    go_ret
    exact ⟨ret_bool (by simp; omega), rfl⟩

set_option maxHeartbeats 400000 in
theorem has_no {v : Value} {w : World} (H : IsNo w v) (b : Int) :
    Calls Tryz.prog 58 #[v, .int .i64 b] w fun e w' => e = .returned (.bool false) ∧ w = w' := by
  have HM := hide (made_no H)
  clear H
  go_enter Tryz.func58, Tryz.ntmps58
  go_wp2_with (go_at_call 29; refine (unhide HM).mono ?_; rintro e w' ⟨rfl, rfl⟩)
  go_ret
  exact ⟨rfl, rfl⟩

set_option maxHeartbeats 400000 in
theorem ready_up {g h cap : Nat} {F : Fl} {w : World} (H : IsFl w g h cap F) (hd : F.down = false) :
    Calls Tryz.prog 45 #[P0 h] w fun e w' => e = .returned (.int .i64 0) ∧ w = w' := by
  have h1 := H.down; rw [hd] at h1
  have HM := hide (made_yes H)
  clear H hd
  go_enter Tryz.func45, Tryz.ntmps45
  go_wp2_with (go_at_call 29; refine (unhide HM).mono ?_; rintro e w' ⟨rfl, rfl⟩)
  go_ret
  exact ⟨rfl, rfl⟩

set_option maxHeartbeats 400000 in
theorem ready_down {g h cap : Nat} {F : Fl} {w : World} (H : IsFl w g h cap F) (hd : F.down = true) :
    Calls Tryz.prog 45 #[P0 h] w fun e w' => e = .returned (.int .i64 7) ∧ w = w' := by
  have h1 := H.down; rw [hd] at h1
  have HM := hide (made_yes H)
  clear H hd
  go_enter Tryz.func45, Tryz.ntmps45
  go_wp2_with (go_at_call 29; refine (unhide HM).mono ?_; rintro e w' ⟨rfl, rfl⟩)
  go_ret
  exact ⟨rfl, rfl⟩

set_option maxHeartbeats 400000 in
theorem ready_no {v : Value} {w : World} (H : IsNo w v) :
    Calls Tryz.prog 45 #[v] w fun e w' => e = .returned (.int .i64 2) ∧ w = w' := by
  have HM := hide (made_no H)
  clear H
  go_enter Tryz.func45, Tryz.ntmps45
  go_wp2_with (go_at_call 29; refine (unhide HM).mono ?_; rintro e w' ⟨rfl, rfl⟩)
  go_ret
  exact ⟨rfl, rfl⟩

set_option maxHeartbeats 400000 in
theorem find_yes {g h cap : Nat} {F : Fl} {w : World} (H : IsFl w g h cap F) (hd : F.down = false) (i j : Nat) (hi : i < F.n) (hj : j < 16) :
    Calls Tryz.prog 47 #[P0 h, .int .i64 i, .int .i64 j] w fun e w' => e = .returned (.tuple #[.pointer (some ⟨g, i * 33 + j * 2, none⟩), .int .i64 0]) ∧ w = w' := by
  have h1 := H.ptr; have h2 := H.fit
  have HR := hide (ready_up H hd)
  have HS := hide (has_yes H i)
  have hb : (decide (0 ≤ (i : Int)) && decide ((i : Int) < F.n)) = true := by simp; omega
  rw [hb] at HS
  clear H hb
  go_enter Tryz.func47, Tryz.ntmps47
  go_wp2_with (first
    | (go_at_call 45; refine (unhide HR).mono ?_; rintro e w' ⟨rfl, rfl⟩)
    | (go_at_call 58; refine (unhide HS).mono ?_; rintro e w' ⟨rfl, rfl⟩))
  go_ret2
  exact ⟨rfl, rfl⟩

set_option maxHeartbeats 400000 in
theorem find_arg {g h cap : Nat} {F : Fl} {w : World} (H : IsFl w g h cap F) (hd : F.down = false) (i j : Int) (hij : ¬ (0 ≤ i ∧ i < F.n ∧ 0 ≤ j ∧ j < 16)) :
    Calls Tryz.prog 47 #[P0 h, .int .i64 i, .int .i64 j] w fun e w' => e = .returned (.tuple #[.pointer none, .int .i64 1]) ∧ w = w' := by
  have HR := hide (ready_up H hd)
  have HS := hide (has_yes H i)
  clear H
  by_cases c : 0 ≤ i ∧ i < F.n
  · have hb : (decide (0 ≤ i) && decide (i < F.n)) = true := by simp; omega
    rw [hb] at HS
    have hj : j < 0 ∨ 16 ≤ j := by omega
    clear hb c hij
    rcases hj with hj | hj
    all_goals
      go_enter Tryz.func47, Tryz.ntmps47
      go_wp2_with (first
        | (go_at_call 45; refine (unhide HR).mono ?_; rintro e w' ⟨rfl, rfl⟩)
        | (go_at_call 58; refine (unhide HS).mono ?_; rintro e w' ⟨rfl, rfl⟩))
      go_ret2
      exact ⟨rfl, rfl⟩
  · have hb : (decide (0 ≤ i) && decide (i < F.n)) = false := by simp; omega
    rw [hb] at HS
    clear hb c hij
    go_enter Tryz.func47, Tryz.ntmps47
    go_wp2_with (first
      | (go_at_call 45; refine (unhide HR).mono ?_; rintro e w' ⟨rfl, rfl⟩)
      | (go_at_call 58; refine (unhide HS).mono ?_; rintro e w' ⟨rfl, rfl⟩))
    go_ret2
    exact ⟨rfl, rfl⟩

set_option maxHeartbeats 400000 in
theorem find_down {g h cap : Nat} {F : Fl} {w : World} (H : IsFl w g h cap F) (hd : F.down = true) (i j : Int) :
    Calls Tryz.prog 47 #[P0 h, .int .i64 i, .int .i64 j] w fun e w' => e = .returned (.tuple #[.pointer none, .int .i64 7]) ∧ w = w' := by
  have HR := hide (ready_down H hd)
  clear H
  go_enter Tryz.func47, Tryz.ntmps47
  go_wp2_with (go_at_call 45; refine (unhide HR).mono ?_; rintro e w' ⟨rfl, rfl⟩)
  go_ret2
  exact ⟨rfl, rfl⟩

set_option maxHeartbeats 400000 in
theorem find_no {v : Value} {w : World} (H : IsNo w v) (i j : Int) :
    Calls Tryz.prog 47 #[v, .int .i64 i, .int .i64 j] w fun e w' => e = .returned (.tuple #[.pointer none, .int .i64 2]) ∧ w = w' := by
  have HR := hide (ready_no H)
  clear H
  go_enter Tryz.func47, Tryz.ntmps47
  go_wp2_with (go_at_call 45; refine (unhide HR).mono ?_; rintro e w' ⟨rfl, rfl⟩)
  go_ret2
  exact ⟨rfl, rfl⟩

def Fl.fall (F : Fl) : Fl := { F with cnt := 0, keep := 0, down := true }

set_option maxHeartbeats 400000 in
theorem fall_any {g h cap : Nat} {F : Fl} {w : World} (H : IsFl w g h cap F) :
    Calls Tryz.prog 46 #[P0 h] w fun e w' => e = .returned (.tuple #[]) ∧ IsFl w' g h cap F.fall ∧ Upd (Two g h) w.heap.size w w' := by
  have hd := H.down; have hc := H.cnt; have hk := H.keep; have hf := H.frH
  have HI := hide (((H.setDown true).setCnt 0).setKeep 0)
  clear H
  go_enter Tryz.func46, Tryz.ntmps46
  go_wp2
  go_end0
  exact ⟨rfl, unhide HI, (((Upd.refl _ _ _).setCell (Or.inl (Or.inr rfl)) _).setCell (Or.inl (Or.inr rfl)) _).setCell (Or.inl (Or.inr rfl)) _⟩

set_option maxHeartbeats 400000 in
theorem missing_any (g o : Nat) (s : Int) (w : World) (hc : w.cell? ⟨g, o, none⟩ = some (.int .i64 s)) :
    Calls Tryz.prog 56 #[.pointer (some ⟨g, o, none⟩)] w fun e w' => e = .returned (.int .i64 (if s = 1 then 22 else 21)) ∧ w = w' := by
  by_cases c : s = 1
  · subst c
    go_enter Tryz.func56, Tryz.ntmps56
    go_wp2
    go_ret
    exact ⟨rfl, rfl⟩
  · go_enter Tryz.func56, Tryz.ntmps56
    go_wp2
    go_ret
    exact ⟨ret_int (by simp), rfl⟩

end Go.Proofs.YtiijbklaapaheaaGreat

/- burn, the closures, change. -/
namespace Go.Proofs.YtiijbklaapaheaaGreat
open Go.RowKit
set_option maxRecDepth 100000

/-- A change is counted. -/
def Fl.burnt (F : Fl) : Fl := if F.cnt = 0 then F else { F with cnt := F.cnt - 1 }

set_option maxHeartbeats 400000 in
theorem burn_no {g h cap : Nat} {F : Fl} {w : World} (H : IsFl w g h cap F) (hc : F.cnt = 0) :
    Calls Tryz.prog 75 #[P0 h] w fun e w' => e = .returned (.tuple #[.int .i64 0, .bool false]) ∧ w = w' := by
  have h1 := H.cnt; rw [hc] at h1
  clear H hc
  go_enter Tryz.func75, Tryz.ntmps75
  go_wp2
  go_ret2
  exact ⟨rfl, rfl⟩

set_option maxHeartbeats 400000 in
theorem burn_yes {g h cap : Nat} {F : Fl} {w : World} (H : IsFl w g h cap F) (hc : 0 < F.cnt) (hm : F.cnt ≤ 9223372036854775807) :
    Calls Tryz.prog 75 #[P0 h] w fun e w' => e = .returned (.tuple #[.int .i64 F.keep, .bool (decide (F.cnt = 1))]) ∧ IsFl w' g h cap { F with cnt := F.cnt - 1 } ∧ Upd (Two g h) w.heap.size w w' := by
  have h1 := H.cnt; have h2 := H.keep; have hf := H.frH
  have HI := hide (H.setCnt (F.cnt - 1))
  obtain ⟨c, hcc⟩ : ∃ c, F.cnt = c := ⟨_, rfl⟩
  rw [hcc] at h1 HI hc hm ⊢
  have hw : wrap64 (c - 1) = c - 1 := by unfold wrap64; omega
  clear H
  go_enter Tryz.func75, Tryz.ntmps75
  go_wp2
  go_region
  go_wp2
  go_ret2
  refine ⟨?_, (unhide HI).drew, ((Upd.refl _ _ _).setCell (Or.inl (Or.inr rfl)) _).drew⟩
  have : (c - 1 == 0) = decide (c = 1) := by rw [Bool.eq_iff_iff]; simp; omega
  rw [this]
  rfl

set_option maxHeartbeats 400000 in
theorem put_any {g h cap : Nat} {F : Fl} {w : World} (H : IsFl w g h cap F) (cb i j : Nat) (hi : i < F.n) (hj : j < 16) (hcb : w.cell? ⟨cb, 0, none⟩ = some (.pointer (some ⟨g, i * 33 + j * 2, none⟩))) (s : Int) (b : ByteArray) :
    Calls Tryz.prog 54 #[.agg #[.int .i64 s, .string b], P0 cb] w fun e w' => e = .returned (.tuple #[]) ∧ IsFl w' g h cap (F.put i j s b) ∧ Upd (Two g h) w.heap.size w w' := by
  have hl := World.block_lt_of_cell? w _ hcb
  have hg := H.glt
  have h1 := H.st i j hi hj
  have h2 := H.bs i j hi hj
  have hf := H.frG
  have HI := hide ((H.put i j hi hj s b).alloc (.cells #[.int .i64 s, .string b] 96))
  clear H
  go_enter Tryz.func54, Tryz.ntmps54
  go_wp2
  go_end0
  exact ⟨rfl, unhide HI, (((Upd.refl _ _ _).setCell (Or.inl (Or.inl rfl)) _).setCell (Or.inl (Or.inl rfl)) _).alloc (by simp [World.setCell]) _⟩

def Fl.fill (F : Fl) (i k : Nat) (s : Int) (b : ByteArray) : Fl := { F with st := fun i' j' => if i' = i ∧ j' < k then s else F.st i' j', bs := fun i' j' => if i' = i ∧ j' < k then b else F.bs i' j' }
theorem fill_zero (F : Fl) (i : Nat) (s : Int) (b : ByteArray) : F.fill i 0 s b = F := by
  simp [Fl.fill]
theorem fill_succ (F : Fl) (i k : Nat) (s : Int) (b : ByteArray) : (F.fill i k s b).put i k s b = F.fill i (k + 1) s b := by
  have e : ∀ i' j', (i' = i ∧ j' < k + 1) ↔ (i' = i ∧ j' = k) ∨ (i' = i ∧ j' < k) := fun i' j' => by omega
  simp only [Fl.fill, Fl.put, Fl.setSt, Fl.setBs, Fl.mk.injEq, true_and, and_true]
  constructor
  · funext i' j'
    by_cases c : i' = i ∧ j' = k
    · rw [if_pos c, if_pos ((e i' j').2 (Or.inl c))]
    · rw [if_neg c]
      by_cases d : i' = i ∧ j' < k
      · rw [if_pos d, if_pos ((e i' j').2 (Or.inr d))]
      · rw [if_neg d, if_neg (fun x => ((e i' j').1 x).elim c d)]
  · funext i' j'
    by_cases c : i' = i ∧ j' = k
    · rw [if_pos c, if_pos ((e i' j').2 (Or.inl c))]
    · rw [if_neg c]
      by_cases d : i' = i ∧ j' < k
      · rw [if_pos d, if_pos ((e i' j').2 (Or.inr d))]
      · rw [if_neg d, if_neg (fun x => ((e i' j').1 x).elim c d)]

/-- A block is made anew: all its pages, and one more wear. -/
def Fl.anew (F : Fl) (i : Nat) (s : Int) (b : ByteArray) : Fl := (F.fill i 16 s b).setWear i (wrap64 (F.wear i + 1))

set_option maxHeartbeats 800000 in
theorem anew_any {g h cap : Nat} {F : Fl} {w : World} (H : IsFl w g h cap F) (cb i : Nat) (hi : i < F.n) (hcb : w.cell? ⟨cb, 0, none⟩ = some (.pointer (some ⟨g, i * 33, none⟩))) (hcg : cb ≠ g) (hch : cb ≠ h) (s : Int) (b : ByteArray) :
    Calls Tryz.prog 49 #[.agg #[.int .i64 s, .string b], P0 cb] w fun e w' => e = .returned (.tuple #[]) ∧ IsFl w' g h cap (F.anew i s b) ∧ Upd (Two g h) w.heap.size w w' := by
  have hl := World.block_lt_of_cell? w _ hcb
  have hg := H.glt
  have hh := H.hlt
  have HH := hide H
  have hbx := World.cell?_alloc_mark w #[Value.int .i64 s, .string b] 96 (0, 0) 0
  have hbx1 := World.cell?_alloc_mark w #[Value.int .i64 s, .string b] 96 (0, 0) 1
  have HX : Hid (∀ wr, Upd (Two g h) (w.heap.size + 1) (w.alloc (.cells #[.int .i64 s, .string b] 96)) wr → wr.cell? ⟨cb, 0, none⟩ = some (.pointer (some ⟨g, i * 33, none⟩)) ∧ wr.cell? ⟨w.heap.size, 0, none⟩ = some (.int .i64 s) ∧ wr.cell? ⟨w.heap.size, 1, none⟩ = some (.string b)) := by
    intro wr hu
    refine ⟨?_, ?_, ?_⟩
    · rw [hu.cell (p := ⟨cb, 0, none⟩) (Nat.lt_succ_of_lt hl) (by show ¬ (cb = g ∨ cb = h); omega), ((Below.refl _ _).alloc (Nat.le_refl _) _).cell (B := w.heap.size) (p := ⟨cb, 0, none⟩) hl]; exact hcb
    · rw [hu.cell (p := ⟨w.heap.size, 0, none⟩) (by show w.heap.size < _; omega) (by show ¬ (w.heap.size = g ∨ w.heap.size = h); omega)]; exact hbx
    · rw [hu.cell (p := ⟨w.heap.size, 1, none⟩) (by show w.heap.size < _; omega) (by show ¬ (w.heap.size = g ∨ w.heap.size = h); omega)]; exact hbx1
  clear H hbx hbx1 hcb
  go_enter Tryz.func49, Tryz.ntmps49
  go_wp2
  go_loopw [4] (fun c wr => ∃ k : Nat, k ≤ 16 ∧ c = .int .i64 k ∧ IsFl wr g h cap (F.fill i k s b) ∧ Upd (Two g h) (w.heap.size + 1) (w.alloc (.cells #[.int .i64 s, .string b] 96)) wr) (fun c _ => 16 - (intOf c).toNat)
  case atStart => exact ⟨0, by omega, rfl, by rw [fill_zero]; exact (unhide HH).alloc _, Upd.refl _ _ _⟩
  case round =>
    obtain ⟨k, hk, rfl, hI, hU⟩ := hrel
    obtain ⟨q1, q2, q3⟩ := unhide HX wr hU
    have hfr := hI.frG
    by_cases hlt : k < 16
    · have r1 := hI.st i k hi hlt
      have r2 := hI.bs i k hi hlt
      have HN := hide (hI.put i k hi hlt s b)
      have HU := hide hU
      clear hI hU
      go_wp2
      go_region
      go_wp2
      go_roundw
      case rel => exact ⟨k + 1, by omega, by go_num, by rw [← fill_succ]; exact (unhide HN).drew, (((unhide HU).setCell (Or.inl (Or.inl rfl)) _).setCell (Or.inl (Or.inl rfl)) _).drew⟩
      case measure => simp [intOf]; omega
    · obtain rfl : k = 16 := by omega
      have r1 := hI.wear i hi
      have HN := hide (hI.setWear i hi (wrap64 (F.wear i + 1)))
      have HU := hide hU
      clear hI hU
      go_wp2
      go_end0
      exact ⟨rfl, unhide HN, ((Upd.refl _ _ _).alloc (Nat.le_refl _) _).trans (((unhide HU).less (by omega)).setCell (Or.inl (Or.inl rfl)) _)⟩

end Go.Proofs.YtiijbklaapaheaaGreat
