/- on, back, Told, Grow, Sent. -/
import Derived.Test.YtgehhoddmmjmjaaSS
namespace Go.Proofs.Ytgehhoddmmjmjaa
open Go.RowKit

def Bk.on (B : Bk) (i : Nat) (s : Int) : Bk := { B with nx := set1 B.nx i (max (B.nx i) (max (B.lk i) s)), lk := set1 B.lk i (max (B.lk i) s) }
def Bk.back (B : Bk) (i : Nat) (s : Int) : Bk := { B with nx := set1 B.nx i (min (B.nx i) (max s (B.lk i))) }
def Bk.grow (B : Bk) (s : Int) : Bk := { B with nx := set1 B.nx B.self s, lk := set1 B.lk B.self s }
def Bk.sent (B : Bk) (i : Nat) (s : Int) : Bk := { B with nx := set1 B.nx i s }

theorem Bk.Ok.on {B : Bk} (O : B.Ok) {i : Nat} (hi : i < B.n) (hs : i ≠ B.self) {s : Int} (h1 : s ≤ B.lk B.self) : (B.on i s).Ok := by
  have hme : (B.on i s).lk B.self = B.lk B.self := set1_ne _ _ (Ne.symm hs)
  have h2 := O.nl i hi; have h3 := O.ln i hi; have h4 := O.l0 i hi
  refine ⟨O.pos, O.le, O.me, ?_, fun j hj => ?_, fun j hj => ?_, fun j hj => ?_, ?_⟩
  · show set1 B.nx i _ B.self = set1 B.lk i _ B.self
    rw [set1_ne _ _ (Ne.symm hs), set1_ne _ _ (Ne.symm hs)]; exact O.own
  · show 0 ≤ set1 B.lk i _ j
    by_cases c : j = i
    · subst c; rw [set1_at]; omega
    · rw [set1_ne _ _ c]; exact O.l0 j hj
  · show set1 B.lk i _ j ≤ set1 B.nx i _ j
    by_cases c : j = i
    · subst c; rw [set1_at, set1_at]; omega
    · rw [set1_ne _ _ c, set1_ne _ _ c]; exact O.ln j hj
  · show set1 B.nx i _ j ≤ (B.on i s).lk B.self
    rw [hme]
    by_cases c : j = i
    · subst c; rw [set1_at]; omega
    · rw [set1_ne _ _ c]; exact O.nl j hj
  · show (B.on i s).lk B.self ≤ _
    rw [hme]; exact O.lm
theorem Bk.Ok.nxt {B : Bk} (O : B.Ok) {i : Nat} (hi : i < B.n) (hs : i ≠ B.self) {s : Int} (h0 : B.lk i ≤ s) (h1 : s ≤ B.lk B.self) : (B.sent i s).Ok := by
  refine ⟨O.pos, O.le, O.me, ?_, O.l0, fun j hj => ?_, fun j hj => ?_, O.lm⟩
  · show set1 B.nx i _ B.self = B.lk B.self
    rw [set1_ne _ _ (Ne.symm hs)]; exact O.own
  · show B.lk j ≤ set1 B.nx i _ j
    by_cases c : j = i
    · subst c; rw [set1_at]; exact h0
    · rw [set1_ne _ _ c]; exact O.ln j hj
  · show set1 B.nx i _ j ≤ B.lk B.self
    by_cases c : j = i
    · subst c; rw [set1_at]; exact h1
    · rw [set1_ne _ _ c]; exact O.nl j hj
theorem Bk.Ok.back {B : Bk} (O : B.Ok) {i : Nat} (hi : i < B.n) (hs : i ≠ B.self) (s : Int) : (B.back i s).Ok :=
  O.nxt hi hs (by have := O.ln i hi; omega) (by have := O.nl i hi; omega)
theorem Bk.Ok.grow {B : Bk} (O : B.Ok) {s : Int} (h0 : B.lk B.self ≤ s) (h1 : s ≤ 1099511627776) : (B.grow s).Ok := by
  have hme : (B.grow s).lk B.self = s := set1_at _ _ _
  have h2 := O.l0 B.self O.me
  refine ⟨O.pos, O.le, O.me, ?_, fun j hj => ?_, fun j hj => ?_, fun j hj => ?_, ?_⟩
  · show set1 B.nx B.self _ B.self = set1 B.lk B.self _ B.self
    rw [set1_at, set1_at]
  · show 0 ≤ set1 B.lk B.self _ j
    by_cases c : j = B.self
    · subst c; rw [set1_at]; omega
    · rw [set1_ne _ _ c]; exact O.l0 j hj
  · show set1 B.lk B.self _ j ≤ set1 B.nx B.self _ j
    by_cases c : j = B.self
    · subst c; rw [set1_at, set1_at]; omega
    · rw [set1_ne _ _ c, set1_ne _ _ c]; exact O.ln j hj
  · show set1 B.nx B.self _ j ≤ (B.grow s).lk B.self
    rw [hme]
    by_cases c : j = B.self
    · subst c; rw [set1_at]; omega
    · rw [set1_ne _ _ c]; have := O.nl j hj; omega
  · show (B.grow s).lk B.self ≤ _
    rw [hme]; exact h1

set_option maxHeartbeats 400000 in
theorem on_any {h : Nat} {B : Bk} {w : World} (H : IsB w h B) (i : Nat) (hi : i < 5) (s : Int) :
    Calls Try.prog 34 #[.pointer (some ⟨h, 2 + i * 2, none⟩), .int .i64 s] w fun e w' => e = .returned (.tuple #[]) ∧ IsB w' h (B.on i s) ∧ Upd (One h) w.heap.size w w' := by
  have h1 := H.cn i hi; have h2 := H.cl i hi; have hf := H.fr
  have HI : Hid (∀ a b, a = max (B.lk i) s → b = max (B.nx i) (max (B.lk i) s) → IsB ((w.setCell ⟨h, 2 + i * 2 + 1, none⟩ (.int .i64 a)).setCell ⟨h, 2 + i * 2, none⟩ (.int .i64 b)).drew h (B.on i s)) := by
    rintro a b rfl rfl
    exact ((H.setLk i hi _).setNx i hi _).drew
  clear H
  rcases Int.lt_or_le (B.lk i) s with c1 | c1
  · rcases Int.lt_or_le (B.nx i) s with c2 | c2
    all_goals
      go_enter Try.func34, Try.ntmps34
      go_wp2
      go_region
      go_wp2
      go_end0
      exact ⟨rfl, unhide HI _ _ (by omega) (by omega), (((Upd.refl _ _ _).one _).one _).drew⟩
  · rcases Int.lt_or_le (B.nx i) (B.lk i) with c2 | c2
    all_goals
      go_enter Try.func34, Try.ntmps34
      go_wp2
      go_region
      go_wp2
      go_end0
      exact ⟨rfl, unhide HI _ _ (by omega) (by omega), (((Upd.refl _ _ _).one _).one _).drew⟩

set_option maxHeartbeats 400000 in
theorem back_any {h : Nat} {B : Bk} {w : World} (H : IsB w h B) (i : Nat) (hi : i < 5) (s : Int) :
    Calls Try.prog 35 #[.pointer (some ⟨h, 2 + i * 2, none⟩), .int .i64 s] w fun e w' => e = .returned (.tuple #[]) ∧ IsB w' h (B.back i s) ∧ Upd (One h) w.heap.size w w' := by
  have h1 := H.cn i hi; have h2 := H.cl i hi; have hf := H.fr
  have HI : Hid (∀ b, b = min (B.nx i) (max s (B.lk i)) → IsB (w.setCell ⟨h, 2 + i * 2, none⟩ (.int .i64 b)).drew h (B.back i s)) := by
    rintro b rfl
    exact (H.setNx i hi _).drew
  clear H
  rcases Int.lt_or_le s (B.lk i) with c1 | c1
  · rcases Int.lt_or_le (B.lk i) (B.nx i) with c2 | c2
    all_goals
      go_enter Try.func35, Try.ntmps35
      go_wp2
      go_region
      go_wp2
      go_end0
      exact ⟨rfl, unhide HI _ (by omega), ((Upd.refl _ _ _).one _).drew⟩
  · rcases Int.lt_or_le s (B.nx i) with c2 | c2
    all_goals
      go_enter Try.func35, Try.ntmps35
      go_wp2
      go_region
      go_wp2
      go_end0
      exact ⟨rfl, unhide HI _ (by omega), ((Upd.refl _ _ _).one _).drew⟩

theorem Bk.ge0 {B : Bk} (O : B.Ok) : 0 ≤ B.lk B.self := O.l0 _ O.me

set_option maxHeartbeats 400000 in
theorem grow_ok {h : Nat} {B : Bk} {w : World} (H : IsB w h B) (O : B.Ok) (s : Int) (h0 : B.lk B.self ≤ s) (h1 : s ≤ 1099511627776) :
    Calls Try.prog 16 #[P0 h, .int .i64 s] w fun e w' => e = .returned (.int .i64 0) ∧ IsB w' h (B.grow s) ∧ Upd (One h) w.heap.size w w' := by
  have hme := O.me; have hle := O.le
  have hi : B.self < 5 := by omega
  have hz : (0 : Int) ≤ (B.self : Int) := by omega
  have hy : (B.self : Int) < 5 := by omega
  have q1 := H.c1; have q2 := H.cn _ hi; have q3 := H.cl _ hi; have hf := H.fr
  have HM := hide (made_yes H O)
  have HL := hide (length_yes H O)
  have HI := hide ((H.setNx B.self hi s).setLk B.self hi s)
  clear H O
  go_enter Try.func16, Try.ntmps16
  go_wp2_with (first
    | (go_at_call 30; refine (unhide HM).mono ?_; rintro e w' ⟨rfl, rfl⟩)
    | (go_at_call 14; refine (unhide HL).mono ?_; rintro e w' ⟨rfl, rfl⟩))
  go_region
  go_wp2
  go_ret
  exact ⟨rfl, (unhide HI).drew, (((Upd.refl _ _ _).one _).one _).drew⟩

set_option maxHeartbeats 400000 in
theorem grow_arg {h : Nat} {B : Bk} {w : World} (H : IsB w h B) (O : B.Ok) (s : Int) (h0 : s < B.lk B.self ∨ 1099511627776 < s) :
    Calls Try.prog 16 #[P0 h, .int .i64 s] w fun e w' => e = .returned (.int .i64 1) ∧ w = w' := by
  have HM := hide (made_yes H O)
  have HL := hide (length_yes H O)
  clear H O
  by_cases c : s < B.lk B.self
  · clear h0
    go_enter Try.func16, Try.ntmps16
    go_wp2_with (first
      | (go_at_call 30; refine (unhide HM).mono ?_; rintro e w' ⟨rfl, rfl⟩)
      | (go_at_call 14; refine (unhide HL).mono ?_; rintro e w' ⟨rfl, rfl⟩))
    go_ret
    exact ⟨rfl, rfl⟩
  · have c1 : 1099511627776 < s := by omega
    clear h0
    go_enter Try.func16, Try.ntmps16
    go_wp2_with (first
      | (go_at_call 30; refine (unhide HM).mono ?_; rintro e w' ⟨rfl, rfl⟩)
      | (go_at_call 14; refine (unhide HL).mono ?_; rintro e w' ⟨rfl, rfl⟩))
    go_ret
    exact ⟨rfl, rfl⟩

set_option maxHeartbeats 400000 in
theorem grow_no {v : Value} {w : World} (H : IsNo w v) (s : Int) :
    Calls Try.prog 16 #[v, .int .i64 s] w fun e w' => e = .returned (.int .i64 2) ∧ w = w' := by
  have HM := hide (made_no H)
  clear H
  go_enter Try.func16, Try.ntmps16
  go_wp2_with (go_at_call 30; refine (unhide HM).mono ?_; rintro e w' ⟨rfl, rfl⟩)
  go_ret
  exact ⟨rfl, rfl⟩

set_option maxHeartbeats 400000 in
theorem sent_ok {h : Nat} {B : Bk} {w : World} (H : IsB w h B) (O : B.Ok) (i : Nat) (hi : i < B.n) (hs : i ≠ B.self) (s : Int) (h0 : B.nx i ≤ s) (h1 : s ≤ B.lk B.self) :
    Calls Try.prog 17 #[P0 h, .int .i64 i, .int .i64 s] w fun e w' => e = .returned (.int .i64 0) ∧ IsB w' h (B.sent i s) ∧ Upd (One h) w.heap.size w w' := by
  have hle := O.le
  have hi5 : i < 5 := by omega
  have hz : (0 : Int) ≤ (i : Int) := by omega
  have hy : (i : Int) < 5 := by omega
  have q2 := H.cn _ hi5; have hf := H.fr
  have HA := hide (another_yes H O i)
  rw [Bk.who_yes (Bk.other_nat hi hs)] at HA
  have HN := hide (next_yes H O i)
  rw [show B.next i = B.nx i by rw [Bk.next, if_pos (Bk.has_nat hi)]; rfl] at HN
  have HL := hide (length_yes H O)
  have HI := hide (H.setNx i hi5 s)
  clear H O
  go_enter Try.func17, Try.ntmps17
  go_wp2_with (first
    | (go_at_call 33; refine (unhide HA).mono ?_; rintro e w' ⟨rfl, rfl⟩)
    | (go_at_call 19; refine (unhide HN).mono ?_; rintro e w' ⟨rfl, rfl⟩)
    | (go_at_call 14; refine (unhide HL).mono ?_; rintro e w' ⟨rfl, rfl⟩))
  go_ret
  exact ⟨rfl, unhide HI, (Upd.refl _ _ _).one _⟩

set_option maxHeartbeats 400000 in
theorem sent_arg {h : Nat} {B : Bk} {w : World} (H : IsB w h B) (O : B.Ok) (i : Nat) (hi : i < B.n) (hs : i ≠ B.self) (s : Int) (h0 : s < B.nx i ∨ B.lk B.self < s) :
    Calls Try.prog 17 #[P0 h, .int .i64 i, .int .i64 s] w fun e w' => e = .returned (.int .i64 1) ∧ w = w' := by
  have HA := hide (another_yes H O i)
  rw [Bk.who_yes (Bk.other_nat hi hs)] at HA
  have HN := hide (next_yes H O i)
  rw [show B.next i = B.nx i by rw [Bk.next, if_pos (Bk.has_nat hi)]; rfl] at HN
  have HL := hide (length_yes H O)
  clear H O
  by_cases c : s < B.nx i
  · clear h0
    go_enter Try.func17, Try.ntmps17
    go_wp2_with (first
      | (go_at_call 33; refine (unhide HA).mono ?_; rintro e w' ⟨rfl, rfl⟩)
      | (go_at_call 19; refine (unhide HN).mono ?_; rintro e w' ⟨rfl, rfl⟩)
      | (go_at_call 14; refine (unhide HL).mono ?_; rintro e w' ⟨rfl, rfl⟩))
    go_ret
    exact ⟨rfl, rfl⟩
  · have c1 : B.lk B.self < s := by omega
    clear h0
    go_enter Try.func17, Try.ntmps17
    go_wp2_with (first
      | (go_at_call 33; refine (unhide HA).mono ?_; rintro e w' ⟨rfl, rfl⟩)
      | (go_at_call 19; refine (unhide HN).mono ?_; rintro e w' ⟨rfl, rfl⟩)
      | (go_at_call 14; refine (unhide HL).mono ?_; rintro e w' ⟨rfl, rfl⟩))
    go_ret
    exact ⟨rfl, rfl⟩

set_option maxHeartbeats 400000 in
theorem sent_who {h : Nat} {B : Bk} {w : World} (H : IsB w h B) (O : B.Ok) (x : Int) (hx : B.other x = false) (s : Int) :
    Calls Try.prog 17 #[P0 h, .int .i64 x, .int .i64 s] w fun e w' => e = .returned (.int .i64 80) ∧ w = w' := by
  have HA := hide (another_yes H O x)
  rw [Bk.who_no hx] at HA
  clear H O
  go_enter Try.func17, Try.ntmps17
  go_wp2_with (first
    | (go_at_call 33; refine (unhide HA).mono ?_; rintro e w' ⟨rfl, rfl⟩))
  go_ret
  exact ⟨rfl, rfl⟩

set_option maxHeartbeats 400000 in
theorem sent_no {v : Value} {w : World} (H : IsNo w v) (x s : Int) :
    Calls Try.prog 17 #[v, .int .i64 x, .int .i64 s] w fun e w' => e = .returned (.int .i64 2) ∧ w = w' := by
  have HM := hide (another_no H x)
  clear H
  go_enter Try.func17, Try.ntmps17
  go_wp2_with (go_at_call 33; refine (unhide HM).mono ?_; rintro e w' ⟨rfl, rfl⟩)
  go_ret
  exact ⟨rfl, rfl⟩

set_option maxHeartbeats 400000 in
theorem agreed_no {v : Value} {w : World} (H : IsNo w v) :
    Calls Try.prog 13 #[v] w fun e w' => e = .returned (.int .i64 0) ∧ w = w' := by
  have HM := hide (made_no H)
  clear H
  go_enter Try.func13, Try.ntmps13
  go_wp2_with (go_at_call 30; refine (unhide HM).mono ?_; rintro e w' ⟨rfl, rfl⟩)
  go_ret
  exact ⟨rfl, rfl⟩

end Go.Proofs.Ytgehhoddmmjmjaa
