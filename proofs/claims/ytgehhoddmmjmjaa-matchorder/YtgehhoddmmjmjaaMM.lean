/- MatchMost: the walk. -/
import Derived.Test.YtgehhoddmmjmjaaW0
import Derived.Test.YtgehhoddmmjmjaaRW
namespace Go.Proofs.Ytgehhoddmmjmjaa
open Go.RowKit
set_option maxRecDepth 100000

/-- A box of two numbers stays. -/
theorem box2b {w x : World} {x0 x1 : Value} {t : TypeId} (hb : Below (w.heap.size + 1) (w.alloc (.cells #[x0, x1] t)) x) :
    x.cell? ⟨w.heap.size, 0, none⟩ = some x0 ∧ x.cell? ⟨w.heap.size, 1, none⟩ = some x1 := by
  constructor
  · rw [hb.cell (p := ⟨w.heap.size, 0, none⟩) (by simp)]; simp [go_sem]
  · rw [hb.cell (p := ⟨w.heap.size, 1, none⟩) (by simp)]; simp [go_sem]

/-- The world behind the box of the group. -/
abbrev bx (w : World) (n s : Int) : World := w.alloc (.cells #[.int .i64 n, .int .i64 s] 23)
theorem bx_size (w : World) (n s : Int) : (bx w n s).heap.size = w.heap.size + 1 := by simp
theorem bx_below (w : World) (n s : Int) : Below w.heap.size w (bx w n s) := (Below.refl _ _).alloc (Nat.le_refl _) _

set_option maxHeartbeats 800000 in
theorem most_arg (n s l : Int) (sv : Value) (w : World) (h : okNew n s l = false) :
    Calls Try.prog 5 #[.agg #[.int .i64 n, .int .i64 s], .int .i64 l, sv] w fun e w' => e = .returned (.bool true) ∧ Below w.heap.size w w' := by
  obtain ⟨B, hB⟩ : ∃ B, bx w n s = B := ⟨_, rfl⟩
  obtain ⟨q0, q1⟩ := box2b (w := w) (x := B) (by rw [← hB]; exact Below.refl _ _)
  have HB0 : Hid (Below w.heap.size w B) := by rw [← hB]; exact bx_below w n s
  go_enter Try.func5, Try.ntmps5
  go_wp2_with (rw [hB])
  refine (new_arg B n s l h).mono ?_
  rintro e w1 ⟨rfl, hb1⟩
  have HB1 := hide ((unhide HB0).trans (hb1.mono (unhide HB0).size))
  clear hb1 q0 q1
  go_wp2_with fail
  refine (begun_any w1).mono ?_
  rintro e w2 ⟨rfl, hb2⟩
  have HB2 := hide ((unhide HB1).trans (hb2.mono (unhide HB1).size))
  clear hb2
  go_wp2_with fail
  refine (begun_any w2).mono ?_
  rintro e w3 ⟨rfl, hb3⟩
  have HB3 := hide ((unhide HB2).trans (hb3.mono (unhide HB2).size))
  clear hb3
  go_wp2
  go_ret
  exact ⟨rfl, unhide HB3⟩

/-- Where the script stands: the book at block h. -/
def AtOp (w : World) (n s m h : Nat) (c : Value) (wr : World) : Prop :=
  ∃ (t : Nat) (B : Bk), t ≤ m ∧ c = .int .i64 t ∧ B.Ok ∧ B.n = n ∧ IsB wr h B ∧ Below (w.heap.size + 1) (bx w n s) wr
/-- Where the counting stands. -/
def AtCnt (w : World) (n s h : Nat) (B : Bk) (a b c : Value) (wr : World) : Prop :=
  ∃ k : Nat, k ≤ n ∧ c = .int .i64 k ∧ a = .int .i64 (cnt (fun y => decide (B.agreed ≤ y)) B.lk k) ∧ b = .int .i64 (cnt (fun y => decide (B.agreed < y)) B.lk k) ∧ IsB wr h B ∧ Below (w.heap.size + 1) (bx w n s) wr

theorem Bk.like_nat {B : Bk} {k : Nat} (h : k < B.n) : B.like k = B.lk k := by rw [Bk.like, if_pos (Bk.has_nat h)]; rfl
theorem Bk.next_nat {B : Bk} {k : Nat} (h : k < B.n) : B.next k = B.nx k := by rw [Bk.next, if_pos (Bk.has_nat h)]; rfl

theorem box3 {w x : World} {x0 x1 x2 : Value} {t : TypeId} (hb : Below (w.heap.size + 1) (w.alloc (.cells #[x0, x1, x2] t)) x) :
    x.cell? ⟨w.heap.size, 0, none⟩ = some x0 ∧ x.cell? ⟨w.heap.size, 1, none⟩ = some x1 ∧ x.cell? ⟨w.heap.size, 2, none⟩ = some x2 := by
  refine ⟨?_, ?_, ?_⟩
  · rw [hb.cell (p := ⟨w.heap.size, 0, none⟩) (by simp)]; simp [go_sem]
  · rw [hb.cell (p := ⟨w.heap.size, 1, none⟩) (by simp)]; simp [go_sem]
  · rw [hb.cell (p := ⟨w.heap.size, 2, none⟩) (by simp)]; simp [go_sem]

set_option maxHeartbeats 1600000 in
theorem most_ok (n s : Nat) (l : Int) (h0 : 1 ≤ n) (h1 : n ≤ 5) (h3 : s < n) (h4 : 0 ≤ l) (h5 : l ≤ 1099511627776) (sv : Value) (m : Nat) (os : Nat → OpV) (w : World) (hs : SeesOps w sv m os) :
    Calls Try.prog 5 #[.agg #[.int .i64 n, .int .i64 s], .int .i64 l, sv] w fun e w' => e = .returned (.bool true) ∧ Below w.heap.size w w' := by
  obtain ⟨B, hB⟩ : ∃ B, bx w n s = B := ⟨_, rfl⟩
  have hsz : B.heap.size = w.heap.size + 1 := by rw [← hB]; exact bx_size w n s
  have HBX : Hid (∀ x, Below (w.heap.size + 1) (bx w n s) x → x.cell? ⟨w.heap.size, 0, none⟩ = some (.int .i64 n) ∧ x.cell? ⟨w.heap.size, 1, none⟩ = some (.int .i64 s)) := fun x hx => box2b hx
  have HB0 : Hid (Below w.heap.size w B) := by rw [← hB]; exact bx_below w n s
  have HS : Hid (∀ w', Below (w.heap.size + 1) (bx w n s) w' → SeesOps w' sv m os ∧ Below w.heap.size w w') := fun w' hb => by
    have := (bx_below w n s).trans (hb.mono (by omega)); exact ⟨hs.below this, this⟩
  obtain ⟨ao, cap0, _, _, rfl, hcap, hmax, _⟩ := id hs
  obtain ⟨q0, q1⟩ := unhide HBX B (by rw [hB]; exact Below.refl _ _)
  have HSZ := hide hsz
  clear hs hsz
  go_enter Try.func5, Try.ntmps5
  go_wp2_with (rw [hB])
  refine (new_ok B n s l h0 h1 h3 h4 h5).mono ?_
  rintro e w1 ⟨rfl, I1, hb1⟩
  have HI1 := hide I1
  have HB1 := hide hb1
  clear hb1 I1 q0 q1
  go_wp2_with fail
  refine (begun_any w1).mono ?_
  rintro e w2 ⟨rfl, hb2⟩
  have HST : Hid (AtOp w n s m (B.heap.size + 1) (.int .i64 0) w2) := ⟨0, Bk.new n s l, Nat.zero_le _, rfl, Bk.new_ok h0 h1 h3 h4 h5, rfl, (unhide HI1).below hb2, by
    rw [hB, ← unhide HSZ]; exact (unhide HB1).trans (hb2.mono (unhide HB1).size)⟩
  have hh : w.heap.size + 1 ≤ B.heap.size + 1 := by have := unhide HSZ; omega
  clear hb2 HI1 HB1
  generalize B.heap.size + 1 = h at HST hh ⊢
  go_wp2
  go_loopw [33] (fun c wr => AtOp w n s m h c wr) (fun c _ => m - (intOf c).toNat)
  case atStart => exact unhide HST
  case round =>
    obtain ⟨t', Bk', ht, rfl, O, hn, I, hE⟩ := hrel
    clear HST
    by_cases hlt : t' < m
    · obtain ⟨⟨ao', cap', gb, ob, hv, _, _, hao, hcl⟩, _⟩ := unhide HS wr hE
      simp only [Value.slice.injEq, true_and] at hv
      obtain ⟨rfl, rfl⟩ := hv
      obtain rfl := hao (by omega)
      obtain ⟨q, hq⟩ : ∃ q, os t' = q := ⟨_, rfl⟩
      have hc := hcl t' hlt
      rw [hq] at hc
      obtain ⟨act, who, slot⟩ := q
      have c0 : wr.cell? ⟨gb, ob + t' * 3, none⟩ = some (.int .i64 act) := hc 0 (by decide)
      have c1 : wr.cell? ⟨gb, ob + t' * 3 + 1, none⟩ = some (.int .i64 who) := hc 1 (by decide)
      have c2 : wr.cell? ⟨gb, ob + t' * 3 + 2, none⟩ = some (.int .i64 slot) := hc 2 (by decide)
      clear hcl hao hq hc
      obtain ⟨X, hX⟩ : ∃ X, wr.alloc (.cells #[.int .i64 act, .int .i64 who, .int .i64 slot] 34) = X := ⟨_, rfl⟩
      have hXs : X.heap.size = wr.heap.size + 1 := by rw [← hX]; simp
      obtain ⟨d0, d1, d2⟩ := box3 (w := wr) (x := X) (by rw [← hX]; exact Below.refl _ _)
      have bX : Below wr.heap.size wr X := by rw [← hX]; exact (Below.refl _ _).alloc (Nat.le_refl _) _
      have HT := hide (told_any (I.below bX) O who (act != 3) slot)
      have HN : Hid ((Bk'.toldN who (act != 3) slot).Ok ∧ (Bk'.toldN who (act != 3) slot).n = n) := ⟨O.toldN _ _ _, (Bk.toldN_n _ _ _ _).1.trans hn⟩
      have HE1 := hide (hE.trans (bX.mono (by have := hE.size; simp at this; omega)))
      clear I O hE bX
      go_wp2_with (rw [hX])
      refine (unhide HT).mono ?_
      rintro e w4 ⟨rfl, I4, u4⟩
      have HR : Hid (AtOp w n s m h (.int .i64 ((t' : Int) + 1)) w4) := ⟨t' + 1, _, by omega, by simp, (unhide HN).1, (unhide HN).2, I4, (unhide HE1).trans (u4.below (by have := (unhide HE1).size; simp at this; omega) (fun k hk c => by simp only [One] at c; omega))⟩
      clear I4 u4
      go_wp2
      go_roundw
      case rel => exact unhide HR
      case measure => simp [intOf]; omega
    · have HC : Hid (AtCnt w n s h Bk' (.int .i64 0) (.int .i64 0) (.int .i64 0) wr) := ⟨0, Nat.zero_le _, rfl, rfl, rfl, I, hE⟩
      obtain ⟨q0, q1⟩ := unhide HBX wr hE
      have HO := hide O
      clear I hE O
      go_wp2
      go_loopw [11, 12, 49] (fun a b c wr => AtCnt w n s h Bk' a b c wr) (fun _ _ c _ => n - (intOf c).toNat)
      case atStart => exact unhide HC
      case round =>
        obtain ⟨k, hk, rfl, rfl, rfl, I, hE⟩ := hrel
        clear HC q0 q1
        have hk1 := cnt_le (fun y => decide (Bk'.agreed ≤ y)) Bk'.lk k
        have hk2 := cnt_le (fun y => decide (Bk'.agreed < y)) Bk'.lk k
        by_cases hlk : k < n
        · have HL := hide (like_yes I (unhide HO) k)
          rw [Bk.like_nat (by omega)] at HL
          have e1 : cnt (fun y => decide (Bk'.agreed ≤ y)) Bk'.lk (k + 1) = cnt (fun y => decide (Bk'.agreed ≤ y)) Bk'.lk k + if Bk'.agreed ≤ Bk'.lk k then 1 else 0 := by rw [cnt]; simp
          have e2 : cnt (fun y => decide (Bk'.agreed < y)) Bk'.lk (k + 1) = cnt (fun y => decide (Bk'.agreed < y)) Bk'.lk k + if Bk'.agreed < Bk'.lk k then 1 else 0 := by rw [cnt]; simp
          have HG := hide (agreed_yes I (unhide HO))
          have HI := hide I
          have HE := hide hE
          clear I hE
          generalize cnt (fun y => decide (Bk'.agreed ≤ y)) Bk'.lk k = n1 at e1 hk1 ⊢
          generalize cnt (fun y => decide (Bk'.agreed < y)) Bk'.lk k = n2 at e2 hk2 ⊢
          have HE12 := hide (And.intro e1 e2)
          clear e1 e2
          go_wp2_with (first | (go_at_call 15; refine (unhide HL).mono ?_; rintro e w' ⟨rfl, rfl⟩) | fail)
          refine (unhide HG).mono ?_
          rintro e w5 ⟨rfl, b5⟩
          have HL5 := hide (like_yes ((unhide HI).below b5) (unhide HO) k)
          rw [Bk.like_nat (by omega)] at HL5
          have HG5 := hide (agreed_yes ((unhide HI).below b5) (unhide HO))
          have HI5 := hide ((unhide HI).below b5)
          have HE5 := hide ((unhide HE).trans (b5.mono (by have := (unhide HE).size; simp at this; omega)))
          clear b5
          rcases (show Bk'.agreed < Bk'.lk k ∨ Bk'.agreed = Bk'.lk k ∨ Bk'.lk k < Bk'.agreed by omega) with cA | cA | cA
          all_goals
            go_wp2_with (first | (go_at_call 15; refine (unhide HL5).mono ?_; rintro e w' ⟨rfl, rfl⟩) | fail)
            refine (unhide HG5).mono ?_
            rintro e w6 ⟨rfl, b6⟩
            have HI6 := hide ((unhide HI5).below b6)
            have HE6 := hide ((unhide HE5).trans (b6.mono (by have := (unhide HE5).size; simp at this; omega)))
            clear b6
            go_wp2
            go_roundw
            case rel =>
              refine ⟨k + 1, by omega, by simp, ?_, ?_, unhide HI6, unhide HE6⟩
              · rw [(unhide HE12).1]; first | rw [if_pos (by omega)] | rw [if_neg (by omega)]
                simp
              · rw [(unhide HE12).2]; first | rw [if_pos (by omega)] | rw [if_neg (by omega)]
                simp
            case measure => simp [intOf]; omega
        · obtain rfl : k = n := by omega
          have hA := agr_is (unhide HO).pos (unhide HO).l0
          have hA1 := hA.most
          have hA2 := hA.few
          rw [hn] at hA1 hA2
          obtain ⟨q0, q1⟩ := unhide HBX wr hE
          have HE := hide ((unhide HS wr hE).2)
          have ha : agr Bk'.lk k = Bk'.agreed := by rw [Bk.agreed, hn]
          rw [ha] at hA1 hA2
          generalize cnt (fun y => decide (Bk'.agreed ≤ y)) Bk'.lk k = n1 at hA1 hk1 ⊢
          generalize cnt (fun y => decide (Bk'.agreed < y)) Bk'.lk k = n2 at hA2 hk2 ⊢
          clear I hE hA
          go_wp2
          go_ret
          exact ⟨ret_bool (by simp; omega), unhide HE⟩
end Go.Proofs.Ytgehhoddmmjmjaa
