/- What is told, sent and grown, at any arguments; begun. -/
import Derived.Test.YtgehhoddmmjmjaaM3
namespace Go.Proofs.Ytgehhoddmmjmjaa
open Go.RowKit

def Bk.tells (B : Bk) (x : Int) (yes : Bool) (s : Int) : Bool := B.other x && decide (0 ≤ s) && (!yes || decide (s ≤ B.lk B.self))
def Bk.toldN (B : Bk) (x : Int) (yes : Bool) (s : Int) : Bk := if B.tells x yes s then B.tell x.toNat yes s else B
def Bk.toldE (B : Bk) (x : Int) (yes : Bool) (s : Int) : Int := if B.other x then (if B.tells x yes s then 0 else 1) else 80
def Bk.toldB (B : Bk) (x : Int) (yes : Bool) (s : Int) : Bool := decide (B.agreed < (B.toldN x yes s).agreed)
theorem Bk.toldN_yes {B : Bk} {x : Int} {yes : Bool} {s : Int} (h : B.tells x yes s = true) : B.toldN x yes s = B.tell x.toNat yes s := by rw [Bk.toldN, if_pos h]
theorem Bk.toldN_no {B : Bk} {x : Int} {yes : Bool} {s : Int} (h : B.tells x yes s = false) : B.toldN x yes s = B := by rw [Bk.toldN, h]; rfl
theorem Bk.tells_is {B : Bk} (O : B.Ok) {x : Int} {yes : Bool} {s : Int} (h : B.tells x yes s = true) : ∃ i : Nat, x = i ∧ i < B.n ∧ i ≠ B.self ∧ 0 ≤ s ∧ (yes = true → s ≤ B.lk B.self) := by
  simp only [Bk.tells, Bool.and_eq_true, decide_eq_true_eq, Bool.or_eq_true, Bool.not_eq_true'] at h
  obtain ⟨i, rfl, h1, _, h2⟩ := Bk.other_is O h.1.1
  exact ⟨i, rfl, h1, h2, h.1.2, fun c => by rcases h.2 with e | e; rw [c] at e; cases e; exact e⟩
theorem Bk.tells_not {B : Bk} {x : Int} {yes : Bool} {s : Int} (h : B.tells x yes s = false) (ho : B.other x = true) : s < 0 ∨ (yes = true ∧ B.lk B.self < s) := by
  simp only [Bk.tells, ho, Bool.true_and, Bool.and_eq_false_iff, decide_eq_false_iff_not, Bool.or_eq_false_iff, Bool.not_eq_false'] at h
  rcases h with h | ⟨h1, h2⟩
  · exact Or.inl (by omega)
  · exact Or.inr ⟨h1, by omega⟩
theorem Bk.Ok.toldN {B : Bk} (O : B.Ok) (x : Int) (yes : Bool) (s : Int) : (B.toldN x yes s).Ok := by
  cases h : B.tells x yes s
  · rw [Bk.toldN_no h]; exact O
  · rw [Bk.toldN_yes h]
    obtain ⟨i, rfl, h1, h2, _, h3⟩ := Bk.tells_is O h
    exact O.tell h1 h2 h3
theorem Bk.tell_n (B : Bk) (i : Nat) (yes : Bool) (s : Int) : (B.tell i yes s).n = B.n ∧ (B.tell i yes s).self = B.self := by cases yes <;> exact ⟨rfl, rfl⟩
theorem Bk.toldN_n (B : Bk) (x : Int) (yes : Bool) (s : Int) : (B.toldN x yes s).n = B.n ∧ (B.toldN x yes s).self = B.self := by
  unfold Bk.toldN; split
  · exact Bk.tell_n _ _ _ _
  · exact ⟨rfl, rfl⟩
theorem Bk.tell_lk (B : Bk) (i : Nat) (yes : Bool) (s : Int) (j : Nat) : (B.tell i yes s).lk j = if yes && decide (j = i) then max (B.lk i) s else B.lk j := by
  cases yes
  · rfl
  · show set1 B.lk i _ j = _
    simp [set1]
theorem Bk.toldN_lk (B : Bk) (x : Int) (yes : Bool) (s : Int) (j : Nat) : (B.toldN x yes s).lk j = if B.tells x yes s && yes && decide (j = x.toNat) then max (B.lk x.toNat) s else B.lk j := by
  cases h : B.tells x yes s
  · rw [Bk.toldN_no h]; rfl
  · rw [Bk.toldN_yes h, Bk.tell_lk]; rfl
theorem Bk.toldN_le (B : Bk) (x : Int) (yes : Bool) (s : Int) (j : Nat) : B.lk j ≤ (B.toldN x yes s).lk j := by
  rw [Bk.toldN_lk]; split
  · rename_i c; simp only [Bool.and_eq_true, decide_eq_true_eq] at c; rw [c.2]; omega
  · exact Int.le_refl _
theorem Bk.toldN_len {B : Bk} (O : B.Ok) (x : Int) (yes : Bool) (s : Int) : (B.toldN x yes s).lk B.self = B.lk B.self := by
  rw [Bk.toldN_lk]; split
  · rename_i c; simp only [Bool.and_eq_true, decide_eq_true_eq] at c
    obtain ⟨i, rfl, _, h2, _⟩ := Bk.tells_is O c.1.1
    exact absurd c.2.symm h2
  · rfl
theorem Bk.toldN_agreed {B : Bk} (O : B.Ok) (x : Int) (yes : Bool) (s : Int) : B.agreed ≤ (B.toldN x yes s).agreed := by
  unfold Bk.agreed; rw [(Bk.toldN_n B x yes s).1]
  exact agr_mono O.pos O.l0 fun t _ => Bk.toldN_le B x yes s t

theorem ret_told {a b : Bool} {c d : Int} (h : a = b) (k : c = d) : Ending.returned (.tuple #[.bool a, .int .i64 c]) = .returned (.tuple #[.bool b, .int .i64 d]) := by rw [h, k]

theorem told_any {h : Nat} {B : Bk} {w : World} (H : IsB w h B) (O : B.Ok) (x : Int) (yes : Bool) (s : Int) :
    Calls Try.prog 18 #[P0 h, .int .i64 x, .bool yes, .int .i64 s] w fun e w' => e = .returned (.tuple #[.bool (B.toldB x yes s), .int .i64 (B.toldE x yes s)]) ∧ IsB w' h (B.toldN x yes s) ∧ Upd (One h) w.heap.size w w' := by
  cases ho : B.other x
  · have ht : B.tells x yes s = false := by simp [Bk.tells, ho]
    refine (told_who H O x ho yes s).mono ?_
    rintro e w' ⟨rfl, rfl⟩
    rw [Bk.toldN_no ht]
    exact ⟨ret_told (by simp [Bk.toldB, Bk.toldN_no ht]) (by simp [Bk.toldE, ho]), H, Upd.refl _ _ _⟩
  · cases ht : B.tells x yes s
    · refine (told_arg H O x ho yes s (Bk.tells_not ht ho)).mono ?_
      rintro e w' ⟨rfl, rfl⟩
      rw [Bk.toldN_no ht]
      exact ⟨ret_told (by simp [Bk.toldB, Bk.toldN_no ht]) (by simp [Bk.toldE, ho, ht]), H, Upd.refl _ _ _⟩
    · obtain ⟨i, rfl, h1, h2, h3, h4⟩ := Bk.tells_is O ht
      refine (told_ok H O i h1 h2 yes s h3 h4).mono ?_
      rintro e w' ⟨rfl, hI, hU⟩
      rw [Bk.toldN_yes ht]
      exact ⟨ret_told (by rw [Bk.toldB, Bk.toldN_yes ht]; rfl) (by simp [Bk.toldE, ho, ht]), hI, hU⟩

def Bk.grows (B : Bk) (s : Int) : Bool := decide (B.lk B.self ≤ s) && decide (s ≤ 1099511627776)
def Bk.growN (B : Bk) (s : Int) : Bk := if B.grows s then B.grow s else B
def Bk.growE (B : Bk) (s : Int) : Int := if B.grows s then 0 else 1
theorem Bk.growN_yes {B : Bk} {s : Int} (h : B.grows s = true) : B.growN s = B.grow s := by rw [Bk.growN, if_pos h]
theorem Bk.growN_no {B : Bk} {s : Int} (h : B.grows s = false) : B.growN s = B := by rw [Bk.growN, h]; rfl
theorem Bk.grows_is {B : Bk} {s : Int} (h : B.grows s = true) : B.lk B.self ≤ s ∧ s ≤ 1099511627776 := by simpa [Bk.grows] using h
theorem Bk.grows_not {B : Bk} {s : Int} (h : B.grows s = false) : s < B.lk B.self ∨ 1099511627776 < s := by
  simp only [Bk.grows, Bool.and_eq_false_iff, decide_eq_false_iff_not] at h; omega
theorem Bk.Ok.growN {B : Bk} (O : B.Ok) (s : Int) : (B.growN s).Ok := by
  cases h : B.grows s
  · rw [Bk.growN_no h]; exact O
  · rw [Bk.growN_yes h]; exact O.grow (Bk.grows_is h).1 (Bk.grows_is h).2
theorem Bk.growN_n (B : Bk) (s : Int) : (B.growN s).n = B.n ∧ (B.growN s).self = B.self := by
  unfold Bk.growN; split <;> exact ⟨rfl, rfl⟩
theorem Bk.growN_le (B : Bk) (s : Int) (j : Nat) : B.lk j ≤ (B.growN s).lk j := by
  cases h : B.grows s
  · rw [Bk.growN_no h]; exact Int.le_refl _
  · rw [Bk.growN_yes h]
    show _ ≤ set1 B.lk B.self s j
    by_cases c : j = B.self
    · subst c; rw [set1_at]; exact (Bk.grows_is h).1
    · rw [set1_ne _ _ c]; exact Int.le_refl _
theorem grow_any {h : Nat} {B : Bk} {w : World} (H : IsB w h B) (O : B.Ok) (s : Int) :
    Calls Try.prog 16 #[P0 h, .int .i64 s] w fun e w' => e = .returned (.int .i64 (B.growE s)) ∧ IsB w' h (B.growN s) ∧ Upd (One h) w.heap.size w w' := by
  cases ht : B.grows s
  · refine (grow_arg H O s (Bk.grows_not ht)).mono ?_
    rintro e w' ⟨rfl, rfl⟩
    rw [Bk.growN_no ht]
    exact ⟨ret_int (by simp [Bk.growE, ht]), H, Upd.refl _ _ _⟩
  · refine (grow_ok H O s (Bk.grows_is ht).1 (Bk.grows_is ht).2).mono ?_
    rintro e w' ⟨rfl, hI, hU⟩
    rw [Bk.growN_yes ht]
    exact ⟨ret_int (by simp [Bk.growE, ht]), hI, hU⟩

def Bk.sends (B : Bk) (x s : Int) : Bool := B.other x && decide (B.nx x.toNat ≤ s) && decide (s ≤ B.lk B.self)
def Bk.sentN (B : Bk) (x s : Int) : Bk := if B.sends x s then B.sent x.toNat s else B
def Bk.sentE (B : Bk) (x s : Int) : Int := if B.other x then (if B.sends x s then 0 else 1) else 80
theorem Bk.sentN_yes {B : Bk} {x s : Int} (h : B.sends x s = true) : B.sentN x s = B.sent x.toNat s := by rw [Bk.sentN, if_pos h]
theorem Bk.sentN_no {B : Bk} {x s : Int} (h : B.sends x s = false) : B.sentN x s = B := by rw [Bk.sentN, h]; rfl
theorem Bk.sends_is {B : Bk} (O : B.Ok) {x s : Int} (h : B.sends x s = true) : ∃ i : Nat, x = i ∧ i < B.n ∧ i ≠ B.self ∧ B.nx i ≤ s ∧ s ≤ B.lk B.self := by
  simp only [Bk.sends, Bool.and_eq_true, decide_eq_true_eq] at h
  obtain ⟨i, rfl, h1, _, h2⟩ := Bk.other_is O h.1.1
  exact ⟨i, rfl, h1, h2, h.1.2, h.2⟩
theorem Bk.Ok.sentN {B : Bk} (O : B.Ok) (x s : Int) : (B.sentN x s).Ok := by
  cases h : B.sends x s
  · rw [Bk.sentN_no h]; exact O
  · rw [Bk.sentN_yes h]
    obtain ⟨i, rfl, h1, h2, h3, h4⟩ := Bk.sends_is O h
    exact O.nxt h1 h2 (by have := O.ln i h1; omega) h4
theorem Bk.sentN_n (B : Bk) (x s : Int) : (B.sentN x s).n = B.n ∧ (B.sentN x s).self = B.self ∧ (B.sentN x s).lk = B.lk := by
  unfold Bk.sentN; split <;> exact ⟨rfl, rfl, rfl⟩
theorem sent_any {h : Nat} {B : Bk} {w : World} (H : IsB w h B) (O : B.Ok) (x s : Int) :
    Calls Try.prog 17 #[P0 h, .int .i64 x, .int .i64 s] w fun e w' => e = .returned (.int .i64 (B.sentE x s)) ∧ IsB w' h (B.sentN x s) ∧ Upd (One h) w.heap.size w w' := by
  cases ho : B.other x
  · have ht : B.sends x s = false := by simp [Bk.sends, ho]
    refine (sent_who H O x ho s).mono ?_
    rintro e w' ⟨rfl, rfl⟩
    rw [Bk.sentN_no ht]
    exact ⟨ret_int (by simp [Bk.sentE, ho]), H, Upd.refl _ _ _⟩
  · cases ht : B.sends x s
    · obtain ⟨i, rfl, h1, _, h2⟩ := Bk.other_is O ho
      refine (sent_arg H O i h1 h2 s ?_).mono ?_
      · simp only [Bk.sends, ho, Bool.true_and, Bool.and_eq_false_iff, decide_eq_false_iff_not, Int.toNat_natCast] at ht; omega
      · rintro e w' ⟨rfl, rfl⟩
        rw [Bk.sentN_no ht]
        exact ⟨ret_int (by simp [Bk.sentE, ho, ht]), H, Upd.refl _ _ _⟩
    · obtain ⟨i, rfl, h1, h2, h3, h4⟩ := Bk.sends_is O ht
      refine (sent_ok H O i h1 h2 s h3 h4).mono ?_
      rintro e w' ⟨rfl, hI, hU⟩
      rw [Bk.sentN_yes ht]
      exact ⟨ret_int (by simp [Bk.sentE, ho, ht]), hI, hU⟩

set_option maxRecDepth 100000 in
set_option maxHeartbeats 800000 in
theorem begun_any (w : World) : Calls Try.prog 10 #[] w fun e w' => e = .returned (.bool true) ∧ Below w.heap.size w w' := by
  have O0 : (Bk.new 3 0 5).Ok := Bk.new_ok (by decide) (by decide) (by decide) (by decide) (by decide)
  have O1 := O0.tell (i := 1) (yes := false) (s := 2) (by decide) (by decide) (fun h => by cases h)
  have O2 := O1.tell (i := 1) (yes := true) (s := 4) (by decide) (by decide) (fun h => by decide)
  have e1 : decide ((Bk.new 3 0 5).agreed < ((Bk.new 3 0 5).tell 1 false 2).agreed) = false := by decide
  have e2 : decide (((Bk.new 3 0 5).tell 1 false 2).agreed < (((Bk.new 3 0 5).tell 1 false 2).tell 1 true 4).agreed) = true := by decide
  have e3 : (((Bk.new 3 0 5).tell 1 false 2).tell 1 true 4).agreed = 4 := by decide
  have e4 : ((Bk.new 3 0 5).tell 1 false 2).next 1 = 2 := by decide
  have e5 : (((Bk.new 3 0 5).tell 1 false 2).tell 1 true 4).like 0 = 5 := by decide
  go_enter Try.func10, Try.ntmps10
  go_wp2_with fail
  refine (new_ok w 3 0 5 (by decide) (by decide) (by decide) (by decide) (by decide)).mono ?_
  rintro e w1 ⟨rfl, I1, b1⟩
  have HT := hide (told_ok I1 O0 1 (by decide) (by decide) false 2 (by decide) (fun h => by cases h))
  rw [e1] at HT
  have HB1 := hide b1
  have HSZ : Hid (w.heap.size < w1.heap.size) := by have := I1.lt; show _ < _; omega
  clear I1 b1
  go_wp2_with fail
  refine (unhide HT).mono ?_
  rintro e w2 ⟨rfl, I2, u2⟩
  have HN := hide (next_yes I2 O1 1)
  rw [e4] at HN
  have HT2 := hide (told_ok I2 O1 1 (by decide) (by decide) true 4 (by decide) (fun _ => by decide))
  rw [e2] at HT2
  have hb2 : Below w.heap.size w w2 := (unhide HB1).trans (u2.below (unhide HB1).size (fun k hk c => by simp only [One] at c; omega))
  have HB2 := hide hb2
  clear I2 u2 hb2
  go_wp2_with (first | (go_at_call 19; refine (unhide HN).mono ?_; rintro e w' ⟨rfl, rfl⟩) | fail)
  refine (unhide HT2).mono ?_
  rintro e w3 ⟨rfl, I3, u3⟩
  have HG := hide (agreed_yes I3 O2)
  rw [e3] at HG
  have HI3 := hide I3
  have hb3 : Below w.heap.size w w3 := (unhide HB2).trans (u3.below (unhide HB2).size (fun k hk c => by simp only [One] at c; omega))
  have HB3 := hide hb3
  clear I3 u3 hb3
  go_wp2_with fail
  refine (unhide HG).mono ?_
  rintro e w4 ⟨rfl, b4⟩
  have HL := hide (like_yes ((unhide HI3).below b4) O2 0)
  rw [e5] at HL
  have HB4 := hide ((unhide HB3).trans (b4.mono (unhide HB3).size))
  clear b4
  go_wp2_with (first | (go_at_call 15; refine (unhide HL).mono ?_; rintro e w' ⟨rfl, rfl⟩))
  go_ret
  exact ⟨rfl, unhide HB4⟩

end Go.Proofs.Ytgehhoddmmjmjaa
