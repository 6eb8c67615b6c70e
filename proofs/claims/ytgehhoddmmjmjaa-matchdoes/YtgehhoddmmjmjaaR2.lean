/- The document's Told. -/
import Derived.Test.YtgehhoddmmjmjaaR3
namespace Go.Proofs.Ytgehhoddmmjmjaa
open Go.RowKit

theorem IsR.ext {w : World} {r b cb d cd : Nat} {B C : Bk} (H : IsR w r b cb d cd B) (hn : C.n = B.n) (hs : C.self = B.self) (hx : ∀ i, C.nx i = B.nx i) (hl : ∀ i, C.lk i = B.lk i) : IsR w r b cb d cd C :=
  ⟨H.rb, H.rd, H.bd, by rw [hn]; exact H.fb, by rw [hn]; exact H.fd, by rw [hn]; exact H.c0, by rw [hs]; exact H.c1, by rw [hl, hs]; exact H.c2, by rw [hn]; exact H.c3, by rw [hn]; exact H.c4, fun i hi h => by rw [hx]; exact H.cx i (by rw [← hn]; exact hi) (by rw [← hs]; exact h), fun i hi h => by rw [hl]; exact H.cy i (by rw [← hn]; exact hi) (by rw [← hs]; exact h), H.lb, H.ld, H.frR, H.frB, H.frD⟩

theorem back_lk (B : Bk) (i : Nat) (s : Int) : (B.back i s).agreed = B.agreed := rfl

set_option maxHeartbeats 800000 in
theorem rtold_no {r b cb d cd : Nat} {B : Bk} {w : World} (H : IsR w r b cb d cd B) (O : B.Ok) (i : Nat) (hi : i < B.n) (hs : i ≠ B.self) (s : Int) (h0 : 0 ≤ s) :
    Calls Try.prog 25 #[P0 r, .int .i64 i, .bool false, .int .i64 s] w fun e w' => e = .returned (.tuple #[.bool false, .int .i64 0]) ∧ IsR w' r b cb d cd (B.back i s) ∧ Upd (Tri r b d) w.heap.size w w' := by
  have h3 := H.c3; have h4 := H.c4; have hf := H.frB
  have hx := H.cx i hi hs; have hy := H.cy i hi hs
  have hl := O.ln i hi
  have hi0 : (0 : Int) ≤ (i : Int) := by omega
  have hin : (i : Int) < B.n := by omega
  have HW := hide (rwho_any H i)
  rw [Bk.who_yes (Bk.other_nat hi hs)] at HW
  have HI : Hid (∀ a, a = min (B.nx i) (max s (B.lk i)) → IsR (w.setCell ⟨b, i, none⟩ (.int .i64 a)) r b cb d cd (B.back i s)) := by
    rintro a rfl
    exact H.setX i _
  by_cases c : s < B.nx i
  · clear H O
    rcases Int.lt_or_le s (B.lk i) with c1 | c1
    all_goals
      go_enter Try.func25, Try.ntmps25
      go_wp2_with (first | (go_at_call 38; refine (unhide HW).mono ?_; rintro e w' ⟨rfl, rfl⟩))
      go_region
      go_wp2
      go_ret2
      exact ⟨rfl, (unhide HI _ (by omega)).drew, ((Upd.refl _ _ _).tri (Or.inr (Or.inl rfl)) _).drew⟩
  · have HJ : Hid (IsR w r b cb d cd (B.back i s)) := H.ext rfl rfl (fun j => by
      show set1 B.nx i _ j = _
      by_cases cj : j = i
      · subst cj; rw [set1_at]; omega
      · rw [set1_ne _ _ cj]) (fun _ => rfl)
    clear H O
    go_enter Try.func25, Try.ntmps25
    go_wp2_with (first | (go_at_call 38; refine (unhide HW).mono ?_; rintro e w' ⟨rfl, rfl⟩))
    go_ret2
    exact ⟨rfl, unhide HJ, Upd.refl _ _ _⟩

set_option maxHeartbeats 1600000 in
theorem rtold_yes {r b cb d cd : Nat} {B : Bk} {w : World} (H : IsR w r b cb d cd B) (O : B.Ok) (i : Nat) (hi : i < B.n) (hs : i ≠ B.self) (s : Int) (h0 : 0 ≤ s) (h1 : s ≤ B.lk B.self) :
    Calls Try.prog 25 #[P0 r, .int .i64 i, .bool true, .int .i64 s] w fun e w' => e = .returned (.tuple #[.bool (decide (B.agreed < (B.on i s).agreed)), .int .i64 0]) ∧ IsR w' r b cb d cd (B.on i s) ∧ Upd (Tri r b d) w.heap.size w w' := by
  have h2 := H.c2; have h3 := H.c3; have h4 := H.c4; have hfb := H.frB; have hfd := H.frD
  have hx := H.cx i hi hs; have hy := H.cy i hi hs
  have hrb := H.rb; have hrd := H.rd; have hbd := H.bd
  have hl := O.ln i hi
  have hi0 : (0 : Int) ≤ (i : Int) := by omega
  have hin : (i : Int) < B.n := by omega
  have HW := hide (rwho_any H i)
  rw [Bk.who_yes (Bk.other_nat hi hs)] at HW
  have HG := hide (ragreed_any H O)
  have HO := hide (O.on hi hs h1)
  have HI : Hid (∀ a c, a = max (B.lk i) s → c = max (B.nx i) (max (B.lk i) s) → IsR ((w.setCell ⟨d, i, none⟩ (.int .i64 a)).setCell ⟨b, i, none⟩ (.int .i64 c)) r b cb d cd (B.on i s)) := by
    rintro a c rfl rfl
    exact (H.setY i hs _).setX i _
  have HU : Hid (∀ a c, Upd (Tri r b d) w.heap.size w ((w.setCell ⟨d, i, none⟩ (.int .i64 a)).setCell ⟨b, i, none⟩ (.int .i64 c))) := fun a c => ((Upd.refl _ _ _).tri (Or.inr (Or.inr rfl)) _).tri (Or.inr (Or.inl rfl)) _
  clear H O
  rcases Int.lt_or_le (B.lk i) s with c1 | c1
  · rcases Int.lt_or_le (B.nx i) s with c2 | c2
    · have HI2 := hide (unhide HI s s (by omega) (by omega))
      have HU2 := hide (unhide HU s s)
      clear HI HU
      go_enter Try.func25, Try.ntmps25
      go_wp2_with (first
        | (go_at_call 38; refine (unhide HW).mono ?_; rintro e w' ⟨rfl, rfl⟩)
        | (go_at_call 28; refine (unhide HG).mono ?_; rintro e w' ⟨rfl, rfl⟩))
      go_region
      go_wp2
      go_region
      go_wp2_with fail
      refine (ragreed_any (unhide HI2).drew.drew (unhide HO)).mono ?_
      rintro e w5 ⟨rfl, rfl⟩
      go_wp2
      go_ret2
      exact ⟨rfl, (unhide HI2).drew.drew, (unhide HU2).drew.drew⟩
    · have HI2 := hide (unhide HI s (B.nx i) (by omega) (by omega))
      have HU2 := hide (unhide HU s (B.nx i))
      clear HI HU
      go_enter Try.func25, Try.ntmps25
      go_wp2_with (first
        | (go_at_call 38; refine (unhide HW).mono ?_; rintro e w' ⟨rfl, rfl⟩)
        | (go_at_call 28; refine (unhide HG).mono ?_; rintro e w' ⟨rfl, rfl⟩))
      go_region
      go_wp2
      go_region
      go_wp2_with fail
      refine (ragreed_any (unhide HI2).drew.drew (unhide HO)).mono ?_
      rintro e w5 ⟨rfl, rfl⟩
      go_wp2
      go_ret2
      exact ⟨rfl, (unhide HI2).drew.drew, (unhide HU2).drew.drew⟩
  · have c2 : Hid (max (B.nx i) (max (B.lk i) s) = B.nx i) := by show _ = _; omega
    have HI2 := hide (unhide HI (B.lk i) (B.nx i) (by omega) (by have := unhide c2; omega))
    have HU2 := hide (unhide HU (B.lk i) (B.nx i))
    have c3 : B.lk i ≤ B.nx i := hl
    clear HI HU
    go_enter Try.func25, Try.ntmps25
    go_wp2_with (first
      | (go_at_call 38; refine (unhide HW).mono ?_; rintro e w' ⟨rfl, rfl⟩)
      | (go_at_call 28; refine (unhide HG).mono ?_; rintro e w' ⟨rfl, rfl⟩))
    go_region
    go_wp2
    go_region
    go_wp2_with fail
    refine (ragreed_any (unhide HI2).drew.drew (unhide HO)).mono ?_
    rintro e w5 ⟨rfl, rfl⟩
    go_wp2
    go_ret2
    exact ⟨rfl, (unhide HI2).drew.drew, (unhide HU2).drew.drew⟩

set_option maxHeartbeats 400000 in
theorem rtold_who {r b cb d cd : Nat} {B : Bk} {w : World} (H : IsR w r b cb d cd B) (x : Int) (hx : B.other x = false) (yes : Bool) (s : Int) :
    Calls Try.prog 25 #[P0 r, .int .i64 x, .bool yes, .int .i64 s] w fun e w' => e = .returned (.tuple #[.bool false, .int .i64 80]) ∧ w = w' := by
  have HW := hide (rwho_any H x)
  rw [Bk.who_no hx] at HW
  clear H
  go_enter Try.func25, Try.ntmps25
  go_wp2_with (first | (go_at_call 38; refine (unhide HW).mono ?_; rintro e w' ⟨rfl, rfl⟩))
  go_ret2
  exact ⟨rfl, rfl⟩

set_option maxHeartbeats 400000 in
theorem rtold_arg {r b cb d cd : Nat} {B : Bk} {w : World} (H : IsR w r b cb d cd B) (x : Int) (hx : B.other x = true) (yes : Bool) (s : Int) (hs : s < 0 ∨ (yes = true ∧ B.lk B.self < s)) :
    Calls Try.prog 25 #[P0 r, .int .i64 x, .bool yes, .int .i64 s] w fun e w' => e = .returned (.tuple #[.bool false, .int .i64 1]) ∧ w = w' := by
  have h2 := H.c2
  have HW := hide (rwho_any H x)
  rw [Bk.who_yes hx] at HW
  clear H
  by_cases c : s < 0
  · clear hs
    go_enter Try.func25, Try.ntmps25
    go_wp2_with (first | (go_at_call 38; refine (unhide HW).mono ?_; rintro e w' ⟨rfl, rfl⟩))
    go_ret2
    exact ⟨rfl, rfl⟩
  · obtain ⟨rfl, c2⟩ : yes = true ∧ B.lk B.self < s := by rcases hs with h | h; exact absurd h c; exact h
    go_enter Try.func25, Try.ntmps25
    go_wp2_with (first | (go_at_call 38; refine (unhide HW).mono ?_; rintro e w' ⟨rfl, rfl⟩))
    go_ret2
    exact ⟨rfl, rfl⟩

theorem rtold_any {r b cb d cd : Nat} {B : Bk} {w : World} (H : IsR w r b cb d cd B) (O : B.Ok) (x : Int) (yes : Bool) (s : Int) :
    Calls Try.prog 25 #[P0 r, .int .i64 x, .bool yes, .int .i64 s] w fun e w' => e = .returned (.tuple #[.bool (B.toldB x yes s), .int .i64 (B.toldE x yes s)]) ∧ IsR w' r b cb d cd (B.toldN x yes s) ∧ Upd (Tri r b d) w.heap.size w w' := by
  cases ho : B.other x
  · have ht : B.tells x yes s = false := by simp [Bk.tells, ho]
    refine (rtold_who H x ho yes s).mono ?_
    rintro e w' ⟨rfl, rfl⟩
    rw [Bk.toldN_no ht]
    exact ⟨ret_told (by simp [Bk.toldB, Bk.toldN_no ht]) (by simp [Bk.toldE, ho]), H, Upd.refl _ _ _⟩
  · cases ht : B.tells x yes s
    · refine (rtold_arg H x ho yes s (Bk.tells_not ht ho)).mono ?_
      rintro e w' ⟨rfl, rfl⟩
      rw [Bk.toldN_no ht]
      exact ⟨ret_told (by simp [Bk.toldB, Bk.toldN_no ht]) (by simp [Bk.toldE, ho, ht]), H, Upd.refl _ _ _⟩
    · obtain ⟨i, rfl, h1, h2, h3, h4⟩ := Bk.tells_is O ht
      cases yes
      · refine (rtold_no H O i h1 h2 s h3).mono ?_
        rintro e w' ⟨rfl, hI, hU⟩
        rw [Bk.toldN_yes ht]
        exact ⟨ret_told (by rw [Bk.toldB, Bk.toldN_yes ht]; show false = decide (B.agreed < (B.back _ s).agreed); rw [back_lk]; simp) (by simp [Bk.toldE, ho, ht]), hI, hU⟩
      · refine (rtold_yes H O i h1 h2 s h3 (h4 rfl)).mono ?_
        rintro e w' ⟨rfl, hI, hU⟩
        rw [Bk.toldN_yes ht]
        exact ⟨ret_told (by rw [Bk.toldB, Bk.toldN_yes ht]; rfl) (by simp [Bk.toldE, ho, ht]), hI, hU⟩

end Go.Proofs.Ytgehhoddmmjmjaa
