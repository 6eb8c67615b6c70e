/- Which pages are not blank: lists and counts; the document's Used and All. -/
import Derived.Test.YteehhbgjjamjiaaR9
namespace Go.Proofs.Yteehhbgjjamjiaa
open Go.RowKit

/-- The pages of one block, below k, that are not blank. -/
def rowU (st : Nat → Int) (b : Nat) : Nat → List (Int × Int)
  | 0 => []
  | k + 1 => rowU st b k ++ if st k ≠ 0 then [((b : Int), (k : Int))] else []
/-- All pages of the blocks below b that are not blank. -/
def allU (st : Nat → Nat → Int) : Nat → List (Int × Int)
  | 0 => []
  | b + 1 => allU st b ++ rowU (st b) b 16

theorem rowU_le (st : Nat → Int) (b k : Nat) : (rowU st b k).length ≤ k := by
  induction k with
  | zero => simp [rowU]
  | succ k ih => rw [rowU, List.length_append]; split <;> simp <;> omega
theorem allU_le (st : Nat → Nat → Int) (b : Nat) : (allU st b).length ≤ b * 16 := by
  induction b with
  | zero => simp [allU]
  | succ b ih => rw [allU, List.length_append]; have := rowU_le (st b) b 16; omega

variable {w : World} {S : Nat → Prop} {hr gp gw cp cw : Nat} {pb cb : Nat → Nat} {bv : Nat → Nat → Value} {F : Fl} {kp : Int}

def Fl.usedE (F : Fl) (i : Int) : Int := if 0 ≤ i ∧ i < F.n then ((rowU (F.st i.toNat) i.toNat 16).length : Int) else 0

set_option maxRecDepth 100000 in
set_option maxHeartbeats 1600000 in
theorem rused_any (H : IsRf w S hr gp gw cp cw pb cb bv F kp) (i : Int) :
    Calls Try.prog 15 #[P0 hr, .int .i64 i] w fun e w' => e = .returned (.int .i64 (F.usedE i)) ∧ w = w' := by
  have h0 := H.c0; have h3 := H.fitp
  unfold Fl.usedE
  by_cases hi : 0 ≤ i ∧ i < F.n
  · rw [if_pos hi]
    obtain ⟨i, rfl⟩ := nat_of hi.1
    obtain ⟨a1, a2⟩ := hi
    have hi : i < F.n := by omega
    have h1 := H.page i hi; have h2 := H.room i hi
    have HC := hide (H.cells i hi)
    rw [Int.toNat_natCast]
    clear H
    go_enter Try.func15, Try.ntmps15
    go_wp2
    go_loop [5, 6] (fun n c => ∃ k : Nat, k ≤ 16 ∧ c = .int .i64 k ∧ n = .int .i64 ((rowU (F.st i) i k).length : Int)) (fun _ c => 16 - (intOf c).toNat)
    case atStart => exact ⟨0, by omega, rfl, rfl⟩
    case round =>
      obtain ⟨k, hk, rfl, rfl⟩ := hrel
      have hle := rowU_le (F.st i) i k
      by_cases hlt : k < 16
      · obtain ⟨p0, _, _⟩ := unhide HC k hlt
        by_cases hs : F.st i k = 0
        · have hb : decide (F.st i k ≠ 0) = false := by simpa using hs
          have HR : Hid (rowU (F.st i) i (k + 1) = rowU (F.st i) i k) := by show rowU _ _ k ++ (if _ then _ else _) = _; rw [if_neg (not_not_intro hs)]; simp
          rw [hb] at p0
          clear hb hs
          go_wp2
          go_round
          case rel => exact ⟨k + 1, by omega, by go_num, by rw [unhide HR]⟩
          case measure => simp [intOf]; omega
        · have hb : decide (F.st i k ≠ 0) = true := by simpa using hs
          have HR : Hid ((rowU (F.st i) i (k + 1)).length = (rowU (F.st i) i k).length + 1) := by show (rowU _ _ k ++ (if _ then _ else _)).length = _; rw [if_pos hs]; simp
          rw [hb] at p0
          clear hb hs
          go_wp2
          go_round
          case rel => exact ⟨k + 1, by omega, by go_num, by rw [unhide HR]; go_num⟩
          case measure => simp [intOf]; omega
      · obtain rfl : k = 16 := by omega
        go_wp2
        go_ret
        exact ⟨rfl, rfl⟩
  · rw [if_neg hi]
    clear H
    by_cases a1 : i < 0
    · clear hi
      go_enter Try.func15, Try.ntmps15
      go_wp2
      refine wp_loop_rounds 1 ?_
      rw [rounds_succ]
      go_wp2
      go_ret
      exact ⟨rfl, rfl⟩
    · have a2 : (F.n : Int) ≤ i := by omega
      clear hi
      go_enter Try.func15, Try.ntmps15
      go_wp2
      refine wp_loop_rounds 1 ?_
      rw [rounds_succ]
      go_wp2
      go_ret
      exact ⟨rfl, rfl⟩

def pairCells (l : List (Int × Int)) : List Value := l.flatMap fun x => [.int .i64 x.1, .int .i64 x.2]
theorem pairCells_append (a b : List (Int × Int)) : pairCells (a ++ b) = pairCells a ++ pairCells b := List.flatMap_append
theorem pairCells_length (l : List (Int × Int)) : (pairCells l).length = l.length * 2 := by
  induction l with
  | nil => rfl
  | cons x l ih => rw [pairCells, List.flatMap_cons, List.length_append]; simp only [List.length_cons, List.length_nil]; have : (List.flatMap (fun x => [Value.int .i64 x.1, .int .i64 x.2]) l).length = l.length * 2 := ih; omega

theorem Try.info53 : (Try.prog.info? 53).map (fun i => (i.zero, i.size, i.bytes)) = some (some (.agg #[.int .i64 0, .int .i64 0]), 2, 16) := by kernel_rfl

theorem own_shape2 {w : World} {base e size : Nat} {v : Value} {n : Nat} {xs : List Value} (h : w.ownsRow base e size v n xs) : ∃ ao cap, v = .slice ao n cap := by
  rcases h.2 with ⟨rfl, rfl⟩ | ⟨g, cap, cur, rfl, _⟩
  · exact ⟨none, 0, rfl⟩
  · exact ⟨_, cap, rfl⟩

theorem own_base {w : World} {base e size : Nat} {v : Value} {n : Nat} {xs : List Value} (h : w.ownsRow base e size v n xs) : ∀ k, v.ownBlock = some k → base ≤ k := by
  rcases h.2 with ⟨rfl, rfl⟩ | ⟨g, cap, cur, rfl, hg, _⟩
  · intro k hk; simp [Value.ownBlock] at hk
  · intro k hk; simp [Value.ownBlock] at hk; omega

set_option maxRecDepth 100000 in
set_option maxHeartbeats 3200000 in
theorem rall_any (H : IsRf w S hr gp gw cp cw pb cb bv F kp) :
    Calls Try.prog 19 #[P0 hr] w fun e w' => ∃ x, e = .returned x ∧ w'.ownsRow w.heap.size 53 2 x (allU F.st F.n).length (pairCells (allU F.st F.n)) ∧ Below w.heap.size w w' := by
  obtain ⟨i0, hi0, hz0, hz1, hz2⟩ := info_parts Try.info53
  have hle := H.le; have h3 := H.fitp
  have HH := hide H
  clear H
  go_enter Try.func19, Try.ntmps19
  go_wp2
  go_loopw [3, 4] (fun v c wr => ∃ b : Nat, b ≤ F.n ∧ c = .int .i64 b ∧ wr.ownsRow w.heap.size 53 2 v (allU F.st b).length (pairCells (allU F.st b)) ∧ Below w.heap.size w wr) (fun _ c _ => F.n - (intOf c).toNat)
  case atStart => exact ⟨0, by omega, rfl, World.ownsRow_nil _ _ _ _, Below.refl _ _⟩
  case round =>
    obtain ⟨b, hb, rfl, hown, hbl⟩ := hrel
    obtain ⟨ao, ca, rfl⟩ := own_shape2 hown
    have HO := hide hown
    have HBL := hide hbl
    have hIr := (unhide HH).below hbl
    have g0 := hIr.c0
    have hab := allU_le F.st b
    clear hown hbl hIr
    by_cases hlt : b < F.n
    · have hdb : decide ((b : Int) < F.n) = true := by simp; omega
      go_wp2
      go_loopw [3, 5] (fun v c wr => ∃ k : Nat, k ≤ 16 ∧ c = .int .i64 k ∧ wr.ownsRow w.heap.size 53 2 v (allU F.st b ++ rowU (F.st b) b k).length (pairCells (allU F.st b ++ rowU (F.st b) b k)) ∧ Below w.heap.size w wr) (fun _ c _ => 16 - (intOf c).toNat)
      case atStart => exact ⟨0, by omega, rfl, by simpa [rowU] using unhide HO, unhide HBL⟩
      case round =>
        obtain ⟨k, hk, rfl, hown, hbl⟩ := hrel
        obtain ⟨ao', ca', rfl⟩ := own_shape2 hown
        have HO2 := hide hown
        have HBL2 := hide hbl
        have hIr := (unhide HH).below hbl
        have g0 := hIr.c0; have g1 := hIr.page b hlt; have g2 := hIr.room b hlt
        have HC := hide (hIr.cells b hlt)
        have hrk := rowU_le (F.st b) b k
        clear hown hbl hIr
        by_cases hk16 : k < 16
        · obtain ⟨p0, _, _⟩ := unhide HC k hk16
          by_cases hs : F.st b k = 0
          · have hbq : decide (F.st b k ≠ 0) = false := by simpa using hs
            have HR : Hid (rowU (F.st b) b (k + 1) = rowU (F.st b) b k) := by show rowU _ _ k ++ (if _ then _ else _) = _; rw [if_neg (not_not_intro hs)]; simp
            rw [hbq] at p0
            clear hbq hs
            go_wp2
            go_roundw
            case rel => first | exact ⟨k + 1, by omega, by go_num, by rw [unhide HR]; exact unhide HO2, unhide HBL2⟩ | ((repeat apply Exists.intro); exact ⟨⟨k + 1, by omega, by go_num, by rw [unhide HR]; exact unhide HO2, unhide HBL2⟩, rfl⟩)
            case measure => simp [intOf]; omega
          · have hbq : decide (F.st b k ≠ 0) = true := by simpa using hs
            have HR : Hid (rowU (F.st b) b (k + 1) = rowU (F.st b) b k ++ [((b : Int), (k : Int))]) := by show rowU _ _ k ++ (if _ then _ else _) = _; rw [if_pos hs]
            rw [hbq] at p0
            clear hbq hs
            go_wp2_with (at_builtin; refine wpList_append_own _ rfl _ _ 44 rfl w.heap.size 53 i0 (.agg #[.int .i64 0, .int .i64 0]) 2 16 Try.underlying44 hi0 hz0 hz1 hz2 rfl (by decide) _ _ _ rfl (own_below (unhide HO2) ((Below.refl _ _).alloc (Nat.le_refl _) _)) ⟨wr.heap.size, 0, none⟩ 1 1 [.int .i64 b, .int .i64 k] rfl rfl ?d0 ?d1 ?d2 ?d3 ?d4 ?_)
            case d0 =>
              intro t u hu
              have ht : t < 2 := by have := (List.getElem?_eq_some_iff.1 hu).1; simpa using this
              have hadd : (⟨wr.heap.size, 0, none⟩ : Addr).add t = ⟨wr.heap.size, t, none⟩ := by unfold Addr.add; split <;> simp_all
              rw [hadd, World.cell?_alloc_new]
              simpa using hu
            case d1 => intro u hu; simp at hu; rcases hu with rfl | rfl <;> rfl
            case d2 => unfold maxLen; rw [List.length_append]; omega
            case d3 => rw [List.length_append]; omega
            case d4 => have := (unhide HBL2).size; simp; omega
            intro v2 w2 ho hg _
            have hb2 : Below w.heap.size w w2 := ((unhide HBL2).alloc (unhide HBL2).size _).grown hg (by have := (unhide HBL2).size; simp; omega) (fun q hq => own_base (unhide HO2) q (by rw [List.length_append]; exact hq))
            have HO3 : Hid (w2.ownsRow w.heap.size 53 2 v2 (allU F.st b ++ rowU (F.st b) b (k + 1)).length (pairCells (allU F.st b ++ rowU (F.st b) b (k + 1)))) := by
              rw [unhide HR, ← List.append_assoc, pairCells_append, List.length_append, List.length_append]
              exact ho
            have HB3 := hide hb2
            clear ho hg hb2 HR
            go_wp2
            go_roundw
            case rel => first | exact ⟨k + 1, by omega, by go_num, unhide HO3, unhide HB3⟩ | ((repeat apply Exists.intro); exact ⟨⟨k + 1, by omega, by go_num, unhide HO3, unhide HB3⟩, rfl⟩)
            case measure => simp [intOf]; omega
        · obtain rfl : k = 16 := by omega
          go_wp2
          go_roundw
          case rel => first | exact ⟨b + 1, by omega, by go_num, unhide HO2, unhide HBL2⟩ | ((repeat apply Exists.intro); exact ⟨⟨b + 1, by omega, by go_num, unhide HO2, unhide HBL2⟩, rfl⟩)
          case measure => simp [intOf]; omega
    · obtain rfl : b = F.n := by omega
      go_wp2
      go_ret
      exact ⟨_, rfl, unhide HO, unhide HBL⟩
end Go.Proofs.Yteehhbgjjamjiaa
