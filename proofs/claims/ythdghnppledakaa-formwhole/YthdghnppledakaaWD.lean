/- The reader's numbers, one behind the other. -/
import Derived.Test.YthdghnppledakaaWA
import Derived.Test.YthdghnppledakaaMem2
namespace Go.Proofs.Ythdghnppledakaa
open Go.RowKit

theorem Try.info2 : (Try.prog.info? 2).map (fun i => (i.zero, i.size, i.bytes)) = some (some (.int .i64 0), 1, 8) := by kernel_rfl

/-- The first j numbers of bytes, how many bytes they have, and what is wrong with them. -/
def nrun (l : List Int) : Nat → List Int × Nat × Int
  | 0 => ([], 0, 0)
  | j + 1 =>
    if (nrun l j).2.2 ≠ 0 then nrun l j
    else if (tn (l.drop (nrun l j).2.1)).2.2 ≠ 0 then ([], 0, (tn (l.drop (nrun l j).2.1)).2.2)
    else ((nrun l j).1 ++ [(tn (l.drop (nrun l j).2.1)).1], (nrun l j).2.1 + (tn (l.drop (nrun l j).2.1)).2.1, 0)

theorem nrun_le (l : List Int) (j : Nat) : (nrun l j).2.1 ≤ l.length ∧ ((nrun l j).2.2 = 0 → (nrun l j).1.length = j ∧ j ≤ (nrun l j).2.1) ∧ ((nrun l j).2.2 ≠ 0 → (nrun l j).1 = [] ∧ (nrun l j).2.1 = 0) := by
  induction j with
  | zero => simp [nrun]
  | succ j ih =>
    obtain ⟨h1, h2, h3⟩ := ih
    simp only [nrun]
    by_cases c1 : (nrun l j).2.2 ≠ 0
    · rw [if_pos c1]; exact ⟨h1, fun h => absurd h c1, h3⟩
    · rw [if_neg c1]
      have c1' : (nrun l j).2.2 = 0 := by simpa using c1
      have h2' := h2 c1'
      by_cases c2 : (tn (l.drop (nrun l j).2.1)).2.2 ≠ 0
      · rw [if_pos c2]; exact ⟨Nat.zero_le _, fun h => absurd h c2, fun _ => ⟨rfl, rfl⟩⟩
      · rw [if_neg c2]
        have := tn_le (l.drop (nrun l j).2.1) (by simpa using c2)
        rw [List.length_drop] at this
        refine ⟨by simp only; omega, fun _ => ⟨by simp [h2'.1], by simp only; omega⟩, fun h => absurd rfl h⟩

/-- An error stays. -/
theorem nrun_stuck (l : List Int) (j : Nat) (h : (nrun l j).2.2 ≠ 0) (n : Nat) (hn : j ≤ n) : nrun l n = nrun l j := by
  induction n with
  | zero => obtain rfl : j = 0 := by omega
            rfl
  | succ n ih =>
    by_cases e : j = n + 1
    · subst e; rfl
    · have := ih (by omega)
      simp only [nrun]
      rw [this, if_pos h]

/-- The reader's numbers. -/
def ReadsN (R : Nat) (v : Value) (p base : Nat) (w : World) (t : List Int × Nat × Int) (e : Ending) (w' : World) : Prop :=
  Below R w w' ∧ (t.2.2 = 0 → ∃ x, e = .returned x ∧ AtR w' R v (p + t.2.1) ∧ w'.ownsRow base 2 1 x t.1.length (ints .i64 t.1)) ∧ (t.2.2 ≠ 0 → e = GiveUp t.2.2)

theorem own_only {R : Nat} {w w' : World} {base e size : Nat} {v : Value} {n : Nat} {xs : List Value} (h : w.ownsRow base e size v n xs) (ho : OnlyR R w w') (hR : R < base) : w'.ownsRow base e size v n xs := by
  refine ⟨h.1, ?_⟩
  rcases h.2 with hn | ⟨g, cap, cur, hv, hg, hh, r⟩
  · exact .inl hn
  · exact .inr ⟨g, cap, cur, hv, hg, (ho.2 g (by omega)).trans hh, r⟩

set_option maxHeartbeats 1000000 in
theorem numbersR_any (R : Nat) (v : Value) (zs : List Int) (p : Nat) (n : Int) (w : World) (hat : AtR w R v p) (hs : SeesB R w .u8 v zs) (hby : Byt zs) (hm : zs.length ≤ 1099511627776) (hp : p ≤ zs.length) (hn1 : n ≤ 9223372036854775807) :
    Calls Try.prog 41 #[.pointer (some ⟨R, 0, none⟩), .int .i64 n] w fun e w' => ReadsN R v p w.heap.size w (nrun (zs.drop p) n.toNat) e w' := by
  obtain ⟨i0, hi, hz0, hz1, hz2⟩ := info_parts Try.info2
  have hR := lt_of_block hat
  have HA := hide hat
  have HS := hide hs
  clear hat hs
  go_enter Try.func41, Try.ntmps41
  go_wp2
  go_loopw [5, 7] (fun vl vi wr => ∃ j : Nat, j ≤ n.toNat ∧ vi = .int .i64 j ∧ (nrun (zs.drop p) j).2.2 = 0 ∧ wr.ownsRow w.heap.size 2 1 vl j (ints .i64 (nrun (zs.drop p) j).1) ∧ AtR wr R v (p + (nrun (zs.drop p) j).2.1) ∧ Below R w wr)
    (fun _ vi _ => n.toNat - (intOf vi).toNat)
  case atStart => exact ⟨0, Nat.zero_le _, rfl, rfl, World.ownsRow_nil _ _ _ _, HA.out, Below.refl _ _⟩
  case round =>
    obtain ⟨j, hj, rfl, hz, hownr, hatr, hnx⟩ := hrel
    have hsz := hnx.size
    have hle := nrun_le (zs.drop p) j
    rw [List.length_drop] at hle
    by_cases hlt : (j : Int) < n
    · have hsr := HS.out.below hnx (Nat.le_refl _)
      have hnum := number_any R v zs _ wr hatr hsr hby (by omega) (by omega)
      have hdd : zs.drop (p + (nrun (zs.drop p) j).2.1) = (zs.drop p).drop (nrun (zs.drop p) j).2.1 := List.drop_drop.symm
      rw [hdd] at hnum
      have hstep : nrun (zs.drop p) (j + 1) = if (tn ((zs.drop p).drop (nrun (zs.drop p) j).2.1)).2.2 ≠ 0 then ([], 0, (tn ((zs.drop p).drop (nrun (zs.drop p) j).2.1)).2.2) else ((nrun (zs.drop p) j).1 ++ [(tn ((zs.drop p).drop (nrun (zs.drop p) j).2.1)).1], (nrun (zs.drop p) j).2.1 + (tn ((zs.drop p).drop (nrun (zs.drop p) j).2.1)).2.1, 0) := by
        simp only [nrun]; rw [if_neg (by simpa using hz)]
      by_cases her : (tn ((zs.drop p).drop (nrun (zs.drop p) j).2.1)).2.2 = 0
      · rw [if_neg (by simpa using her)] at hstep
        have HN := hide (hnum.mono fun e w' h => And.intro h.1 (h.2.1 her))
        have HST := hide hstep
        have HLE := hide hle
        have hjm : j ≤ zs.length := by have := (hle.2.1 hz).2; omega
        have HZ := hide hz
        clear hnum hstep hdd hle her hz hsr
        generalize (tn ((zs.drop p).drop (nrun (zs.drop p) j).2.1)).1 = x at *
        go_wp2_with (first
          | (go_at_call 31; refine (unhide HN).mono ?_; rintro e w1 ⟨hb1, rfl, hat1, hon1⟩; have ho1 := own_only hownr hon1 hR)
          | (at_builtin; refine wpList_append_own _ rfl _ _ 23 rfl w.heap.size 2 i0 (.int .i64 0) 1 8 Try.underlying23 hi hz0 hz1 hz2 rfl (by decide) _ _ _ rfl (ho1.alloc _) ⟨w1.heap.size, 0, none⟩ 1 1 [.int .i64 x] rfl rfl ?c1 ?c2 ?c3 ?c4 ?c5 ?_))
        case c1 => exact cell_one_new _ _ _
        case c2 => intro y hy; simp at hy; subst hy; rfl
        case c3 => unfold maxLen; omega
        case c4 => omega
        case c5 => have := hb1.size; simp; omega
        intro v' w2 hown' hgrow _
        have hsz1 := hb1.size
        have hbe : Below R w w2 := ((hnx.trans hb1).alloc (by omega) _).grown hgrow (by simp; omega) (fun k hk => by have := own_block_le ho1 k hk; omega)
        have hat2 : AtR w2 R v (p + (nrun (zs.drop p) (j + 1)).2.1) := by
          rw [HST.out, ← Nat.add_assoc]
          have hRw : some R ≠ Value.ownBlock _ := fun e => by have := own_block_le ho1 R e.symm; omega
          exact ((hgrow.block R (by simp; omega) hRw).trans (Below.heap_alloc _ _ _ (by omega))).trans hat1
        have ho2 : w2.ownsRow w.heap.size 2 1 v' (j + 1) (ints .i64 (nrun (zs.drop p) (j + 1)).1) := by
          rw [HST.out]; simp only [ints_append, ints_one]; exact hown'
        have hz2' : (nrun (zs.drop p) (j + 1)).2.2 = 0 := by rw [HST.out]
        have HZ2 := hide hz2'
        clear hown' hgrow ho1 hownr hat1 hon1 hatr hnx hz2'
        go_wp2
        go_roundw
        case rel => exact ⟨j + 1, by omega, by go_num, HZ2.out, ho2, hat2, hbe⟩
        case measure => simp [intOf]; omega
      · have her' : (tn ((zs.drop p).drop (nrun (zs.drop p) j).2.1)).2.2 ≠ 0 := her
        rw [if_pos her'] at hstep
        have hfin : nrun (zs.drop p) n.toNat = ([], 0, (tn ((zs.drop p).drop (nrun (zs.drop p) j).2.1)).2.2) := by
          rw [nrun_stuck _ (j + 1) (by rw [hstep]; exact her') _ (by omega), hstep]
        have HN := hide (hnum.mono fun e w' h => And.intro h.1 (h.2.2 her'))
        have HF := hide hfin
        have HE := hide her'
        clear hnum hstep hdd hle her her' hz hsr hfin
        generalize (tn ((zs.drop p).drop (nrun (zs.drop p) j).2.1)).2.2 = er at *
        go_wp2_with fail
        refine (unhide HN).mono ?_
        rintro e w1 ⟨hb1, rfl⟩
        refine ⟨rfl, ?_⟩
        rw [HF.out]
        exact ⟨hnx.trans hb1, fun h => absurd h HE.out, fun _ => rfl⟩
    · have hjn : j = n.toNat := by omega
      subst hjn
      have HZ := hide hz
      have HL := hide (hle.2.1 hz).1
      clear hz hle
      go_wp2
      go_ret
      exact ⟨hnx, fun _ => ⟨_, rfl, hatr, by rw [HL.out]; exact hownr⟩, fun h => absurd HZ.out h⟩

end Go.Proofs.Ythdghnppledakaa
