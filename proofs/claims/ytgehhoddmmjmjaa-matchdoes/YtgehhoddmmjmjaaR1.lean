/- The document's book: who, of, Next, Like, Grow, Sent. -/
import Derived.Test.YtgehhoddmmjmjaaW0
namespace Go.Proofs.Ytgehhoddmmjmjaa
open Go.RowKit

/-- The document's three blocks. -/
abbrev Tri (r b d : Nat) : Nat → Prop := fun k => k = r ∨ k = b ∨ k = d
theorem Upd.tri {r b d N q o : Nat} {a w : World} (H : Upd (Tri r b d) N a w) (h : Tri r b d q) (u : Value) : Upd (Tri r b d) N a (w.setCell ⟨q, o, none⟩ u) := H.setCell (p := ⟨q, o, none⟩) (Or.inl h) u

theorem IsR.grow {w : World} {r b cb d cd : Nat} {B : Bk} (H : IsR w r b cb d cd B) (s : Int) : IsR (w.setCell ⟨r, 2, none⟩ (.int .i64 s)) r b cb d cd (B.grow s) := by
  have cr : ∀ o, o ≠ 2 → (w.setCell ⟨r, 2, none⟩ (.int .i64 s)).cell? ⟨r, o, none⟩ = w.cell? ⟨r, o, none⟩ := fun o ho => cs_other (addr_ne (Or.inr ho.symm))
  have co : ∀ q o, q ≠ r → (w.setCell ⟨r, 2, none⟩ (.int .i64 s)).cell? ⟨q, o, none⟩ = w.cell? ⟨q, o, none⟩ := fun q o hq => cs_other (addr_ne (Or.inl hq.symm))
  refine ⟨H.rb, H.rd, H.bd, H.fb, H.fd, by rw [cr 0 (by decide)]; exact H.c0, by rw [cr 1 (by decide)]; exact H.c1, ?_, by rw [cr 3 (by decide)]; exact H.c3, by rw [cr 4 (by decide)]; exact H.c4, fun i hi hs => ?_, fun i hi hs => ?_, by simp [World.setCell]; exact H.lb, by simp [World.setCell]; exact H.ld, fun o => by rw [World.frozen?_setCell]; exact H.frR o, fun o => by rw [World.frozen?_setCell]; exact H.frB o, fun o => by rw [World.frozen?_setCell]; exact H.frD o⟩
  · show _ = some (Value.int .i64 (set1 B.lk B.self s B.self))
    rw [set1_at]; exact cs_same H.c2
  · show _ = some (Value.int .i64 (set1 B.nx B.self s i))
    rw [set1_ne _ _ (show i ≠ B.self from hs), co b i H.rb.symm]; exact H.cx i hi hs
  · show _ = some (Value.int .i64 (set1 B.lk B.self s i))
    rw [set1_ne _ _ (show i ≠ B.self from hs), co d i H.rd.symm]; exact H.cy i hi hs
theorem IsR.setX {w : World} {r b cb d cd : Nat} {B : Bk} (H : IsR w r b cb d cd B) (i : Nat) (x : Int) : IsR (w.setCell ⟨b, i, none⟩ (.int .i64 x)) r b cb d cd { B with nx := set1 B.nx i x } := by
  have co : ∀ q o, q ≠ b → (w.setCell ⟨b, i, none⟩ (.int .i64 x)).cell? ⟨q, o, none⟩ = w.cell? ⟨q, o, none⟩ := fun q o hq => cs_other (addr_ne (Or.inl hq.symm))
  refine ⟨H.rb, H.rd, H.bd, H.fb, H.fd, by rw [co r _ H.rb]; exact H.c0, by rw [co r _ H.rb]; exact H.c1, by rw [co r _ H.rb]; exact H.c2, by rw [co r _ H.rb]; exact H.c3, by rw [co r _ H.rb]; exact H.c4, fun j hj hs => ?_, fun j hj hs => by rw [co d _ H.bd.symm]; exact H.cy j hj hs, by simp [World.setCell]; exact H.lb, by simp [World.setCell]; exact H.ld, fun o => by rw [World.frozen?_setCell]; exact H.frR o, fun o => by rw [World.frozen?_setCell]; exact H.frB o, fun o => by rw [World.frozen?_setCell]; exact H.frD o⟩
  show _ = some (Value.int .i64 (set1 B.nx i x j))
  by_cases c : j = i
  · subst c; rw [set1_at]; exact cs_same (H.cx j hj hs)
  · rw [set1_ne _ _ c, cs_other (addr_ne (Or.inr (Ne.symm c)))]; exact H.cx j hj hs
theorem IsR.setY {w : World} {r b cb d cd : Nat} {B : Bk} (H : IsR w r b cb d cd B) (i : Nat) (hi : i ≠ B.self) (x : Int) : IsR (w.setCell ⟨d, i, none⟩ (.int .i64 x)) r b cb d cd { B with lk := set1 B.lk i x } := by
  have co : ∀ q o, q ≠ d → (w.setCell ⟨d, i, none⟩ (.int .i64 x)).cell? ⟨q, o, none⟩ = w.cell? ⟨q, o, none⟩ := fun q o hq => cs_other (addr_ne (Or.inl hq.symm))
  refine ⟨H.rb, H.rd, H.bd, H.fb, H.fd, by rw [co r _ H.rd]; exact H.c0, by rw [co r _ H.rd]; exact H.c1, ?_, by rw [co r _ H.rd]; exact H.c3, by rw [co r _ H.rd]; exact H.c4, fun j hj hs => by rw [co b _ H.bd]; exact H.cx j hj hs, fun j hj hs => ?_, by simp [World.setCell]; exact H.lb, by simp [World.setCell]; exact H.ld, fun o => by rw [World.frozen?_setCell]; exact H.frR o, fun o => by rw [World.frozen?_setCell]; exact H.frB o, fun o => by rw [World.frozen?_setCell]; exact H.frD o⟩
  · show _ = some (Value.int .i64 (set1 B.lk i x B.self))
    rw [set1_ne _ _ (Ne.symm hi), co r _ H.rd]; exact H.c2
  · show _ = some (Value.int .i64 (set1 B.lk i x j))
    by_cases c : j = i
    · subst c; rw [set1_at]; exact cs_same (H.cy j hj hs)
    · rw [set1_ne _ _ c, cs_other (addr_ne (Or.inr (Ne.symm c)))]; exact H.cy j hj hs

set_option maxHeartbeats 400000 in
theorem rwho_any {r b cb d cd : Nat} {B : Bk} {w : World} (H : IsR w r b cb d cd B) (x : Int) :
    Calls Try.prog 38 #[P0 r, .int .i64 x] w fun e w' => e = .returned (.int .i64 (B.who x)) ∧ w = w' := by
  have h0 := H.c0; have h1 := H.c1
  clear H
  by_cases c0 : x < 0
  · go_enter Try.func38, Try.ntmps38
    go_wp2
    go_ret
    exact ⟨ret_int (by simp [Bk.who, Bk.other, Bk.has]; omega), rfl⟩
  · by_cases c1 : x < B.n
    · by_cases c2 : x = B.self
      · subst c2
        go_enter Try.func38, Try.ntmps38
        go_wp2
        go_ret
        exact ⟨ret_int (by simp [Bk.who, Bk.other]), rfl⟩
      · have c2' : (x == (B.self : Int)) = false := by simp [c2]
        have c3 : Hid (B.other x = true) := by show _ = _; simp [Bk.other, Bk.has]; omega
        go_enter Try.func38, Try.ntmps38
        go_wp2
        go_ret
        exact ⟨ret_int (Bk.who_yes (unhide c3)).symm, rfl⟩
    · go_enter Try.func38, Try.ntmps38
      go_wp2
      go_ret
      exact ⟨ret_int (by simp [Bk.who, Bk.other, Bk.has]; omega), rfl⟩

set_option maxHeartbeats 400000 in
theorem rof_any {r b cb d cd : Nat} {B : Bk} {w : World} (H : IsR w r b cb d cd B) (O : B.Ok) (q cq : Nat) (f : Nat → Int) (hf : ∀ i, i < B.n → i ≠ B.self → w.cell? ⟨q, i, none⟩ = some (.int .i64 (f i))) (hs : f B.self = B.lk B.self) (x : Int) :
    Calls Try.prog 39 #[P0 r, .slice (some ⟨q, 0, none⟩) B.n cq, .int .i64 x] w fun e w' => e = .returned (.int .i64 (if B.has x then f x.toNat else 0)) ∧ w = w' := by
  have h0 := H.c0; have h1 := H.c1; have h2 := H.c2
  cases c : B.has x
  · have c' : x < 0 ∨ B.n ≤ x := by simp only [Bk.has, Bool.and_eq_false_iff, decide_eq_false_iff_not] at c; omega
    clear H O hf hs c
    by_cases c0 : x < 0
    · clear c'
      go_enter Try.func39, Try.ntmps39
      go_wp2
      go_ret
      exact ⟨ret_int (by simp), rfl⟩
    · have c1 : (B.n : Int) ≤ x := by omega
      clear c'
      go_enter Try.func39, Try.ntmps39
      go_wp2
      go_ret
      exact ⟨ret_int (by simp), rfl⟩
  · obtain ⟨i, rfl, hi, h5⟩ := Bk.has_is O c
    have hi0 : (0 : Int) ≤ (i : Int) := by omega
    have hin : (i : Int) < B.n := by omega
    by_cases ci : i = B.self
    · subst ci
      rw [← hs] at h2
      clear H O hf hs c
      go_enter Try.func39, Try.ntmps39
      go_wp2
      go_ret
      exact ⟨ret_int (by simp), rfl⟩
    · have hc := hf i hi ci
      have ci' : ((i : Int) == (B.self : Int)) = false := by simp; omega
      clear H O hf hs c
      go_enter Try.func39, Try.ntmps39
      go_wp2
      go_ret
      exact ⟨ret_int (by simp), rfl⟩

set_option maxHeartbeats 400000 in
theorem rnext_any {r b cb d cd : Nat} {B : Bk} {w : World} (H : IsR w r b cb d cd B) (O : B.Ok) (x : Int) :
    Calls Try.prog 26 #[P0 r, .int .i64 x] w fun e w' => e = .returned (.int .i64 (B.next x)) ∧ w = w' := by
  have h3 := H.c3
  have HO : Hid (Calls Try.prog 39 #[P0 r, .slice (some ⟨b, 0, none⟩) B.n cb, .int .i64 x] w fun e w' => e = .returned (.int .i64 (B.next x)) ∧ w = w') := rof_any H O b cb B.nx H.cx O.own x
  clear H O
  go_enter Try.func26, Try.ntmps26
  go_wp2_with (first | (go_at_call 39; refine (unhide HO).mono ?_; rintro e w' ⟨rfl, rfl⟩))
  go_ret
  exact ⟨rfl, rfl⟩

set_option maxHeartbeats 400000 in
theorem rlike_any {r b cb d cd : Nat} {B : Bk} {w : World} (H : IsR w r b cb d cd B) (O : B.Ok) (x : Int) :
    Calls Try.prog 27 #[P0 r, .int .i64 x] w fun e w' => e = .returned (.int .i64 (B.like x)) ∧ w = w' := by
  have h3 := H.c4
  have HO : Hid (Calls Try.prog 39 #[P0 r, .slice (some ⟨d, 0, none⟩) B.n cd, .int .i64 x] w fun e w' => e = .returned (.int .i64 (B.like x)) ∧ w = w') := rof_any H O d cd B.lk H.cy rfl x
  clear H O
  go_enter Try.func27, Try.ntmps27
  go_wp2_with (first | (go_at_call 39; refine (unhide HO).mono ?_; rintro e w' ⟨rfl, rfl⟩))
  go_ret
  exact ⟨rfl, rfl⟩

set_option maxHeartbeats 400000 in
theorem rgrow_any {r b cb d cd : Nat} {B : Bk} {w : World} (H : IsR w r b cb d cd B) (s : Int) :
    Calls Try.prog 23 #[P0 r, .int .i64 s] w fun e w' => e = .returned (.int .i64 (B.growE s)) ∧ IsR w' r b cb d cd (B.growN s) ∧ Upd (Tri r b d) w.heap.size w w' := by
  have h2 := H.c2; have hf := H.frR
  cases c : B.grows s
  · rw [Bk.growN_no c, show B.growE s = 1 by simp [Bk.growE, c]]
    have c' := Bk.grows_not c
    have HI := hide H
    clear H c
    by_cases c0 : s < B.lk B.self
    · clear c'
      go_enter Try.func23, Try.ntmps23
      go_wp2
      go_ret
      exact ⟨rfl, unhide HI, Upd.refl _ _ _⟩
    · have c1 : 1099511627776 < s := by omega
      clear c'
      go_enter Try.func23, Try.ntmps23
      go_wp2
      go_ret
      exact ⟨rfl, unhide HI, Upd.refl _ _ _⟩
  · rw [Bk.growN_yes c, show B.growE s = 0 by simp [Bk.growE, c]]
    obtain ⟨c0, c1⟩ := Bk.grows_is c
    have HI := hide (H.grow s)
    clear H c
    go_enter Try.func23, Try.ntmps23
    go_wp2
    go_ret
    exact ⟨rfl, unhide HI, (Upd.refl _ _ _).tri (Or.inl rfl) _⟩

set_option maxHeartbeats 800000 in
theorem rsent_any {r b cb d cd : Nat} {B : Bk} {w : World} (H : IsR w r b cb d cd B) (O : B.Ok) (x s : Int) :
    Calls Try.prog 24 #[P0 r, .int .i64 x, .int .i64 s] w fun e w' => e = .returned (.int .i64 (B.sentE x s)) ∧ IsR w' r b cb d cd (B.sentN x s) ∧ Upd (Tri r b d) w.heap.size w w' := by
  have h2 := H.c2; have h3 := H.c3; have hf := H.frB
  have HW := hide (rwho_any H x)
  cases ho : B.other x
  · have ht : B.sends x s = false := by simp [Bk.sends, ho]
    rw [Bk.sentN_no ht, show B.sentE x s = 80 by simp [Bk.sentE, ho]]
    rw [Bk.who_no ho] at HW
    have HI := hide H
    clear H O ho ht
    go_enter Try.func24, Try.ntmps24
    go_wp2_with (first | (go_at_call 38; refine (unhide HW).mono ?_; rintro e w' ⟨rfl, rfl⟩))
    go_ret
    exact ⟨rfl, unhide HI, Upd.refl _ _ _⟩
  · rw [Bk.who_yes ho] at HW
    obtain ⟨i, rfl, hi, h5, hs⟩ := Bk.other_is O ho
    have hi0 : (0 : Int) ≤ (i : Int) := by omega
    have hin : (i : Int) < B.n := by omega
    have hc := H.cx i hi hs
    cases ht : B.sends i s
    · rw [Bk.sentN_no ht, show B.sentE i s = 1 by simp [Bk.sentE, ho, ht]]
      have hx : s < B.nx i ∨ B.lk B.self < s := by simp only [Bk.sends, ho, Bool.true_and, Bool.and_eq_false_iff, decide_eq_false_iff_not, Int.toNat_natCast] at ht; omega
      have HI := hide H
      clear H O ho ht
      by_cases c0 : s < B.nx i
      · clear hx
        go_enter Try.func24, Try.ntmps24
        go_wp2_with (first | (go_at_call 38; refine (unhide HW).mono ?_; rintro e w' ⟨rfl, rfl⟩))
        go_ret
        exact ⟨rfl, unhide HI, Upd.refl _ _ _⟩
      · have c1 : B.lk B.self < s := by omega
        clear hx
        go_enter Try.func24, Try.ntmps24
        go_wp2_with (first | (go_at_call 38; refine (unhide HW).mono ?_; rintro e w' ⟨rfl, rfl⟩))
        go_ret
        exact ⟨rfl, unhide HI, Upd.refl _ _ _⟩
    · rw [Bk.sentN_yes ht, show B.sentE i s = 0 by simp [Bk.sentE, ho, ht]]
      have hx : B.nx i ≤ s ∧ s ≤ B.lk B.self := by simp only [Bk.sends, ho, Bool.true_and, Bool.and_eq_true, decide_eq_true_eq, Int.toNat_natCast] at ht; exact ht
      obtain ⟨c0, c1⟩ := hx
      have HI := hide (H.setX i s)
      clear H O ho ht
      go_enter Try.func24, Try.ntmps24
      go_wp2_with (first | (go_at_call 38; refine (unhide HW).mono ?_; rintro e w' ⟨rfl, rfl⟩))
      go_ret
      exact ⟨rfl, unhide HI, (Upd.refl _ _ _).tri (Or.inr (Or.inl rfl)) _⟩

end Go.Proofs.Ytgehhoddmmjmjaa
