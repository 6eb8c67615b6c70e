/- put, whatever an instruction is. -/
import Derived.Test.YtknpfippdddnhabDoorJX
import Derived.Test.YtknpfippdddnhabDoorX12
import Derived.Test.YtknpfippdddnhabDoorX20
import Derived.Test.YtknpfippdddnhabDoorX21
import Derived.Test.YtknpfippdddnhabDoorX22
namespace Go.Proofs.YtknpfippdddnhabDoor
open Go.RowKit Go.Shelf
set_option maxRecDepth 100000

def I64 (x : Int) : Prop := -9223372036854775808 ≤ x ∧ x ≤ 9223372036854775807
set_option maxHeartbeats 800000 in
theorem put_op (v : Value) (n : Nat) (va : Option Addr) (vc : Nat) (hv : v = .slice va n vc) (ad o a b m : Int) (w : World) (h : ¬ (0 ≤ o ∧ o < 28)) : Calls Tryd.prog 32 #[v, iV ad o a b m] w fun e w' => e = GiveUp 130 ∧ Below w.heap.size w w' := by
  subst hv
  have HZ := hide (fun w => size_no o w h)
  clear h
  go_enter Tryd.func32, Tryd.ntmps32
  go_wp2_with (go_at_call 37; refine (unhide HZ _).mono ?_; rintro e w2 ⟨rfl, rfl⟩)
  refine (must_no _ _).mono ?_
  rintro e w2 ⟨rfl, rfl⟩
  exact ⟨rfl, rfl, below_box _⟩
set_option maxHeartbeats 800000 in
theorem put_bad (v : Value) (n : Nat) (va : Option Addr) (vc : Nat) (hv : v = .slice va n vc) (ad o a b m : Int) (w : World) (hT : Tab w) (ho0 : 0 ≤ o) (ho1 : o < 28) (hm : I64 m) (h : putE ⟨ad, o, a, b, m⟩ ≠ 0) : Calls Tryd.prog 32 #[v, iV ad o a b m] w fun e w' => e = GiveUp (putE ⟨ad, o, a, b, m⟩) ∧ Below w.heap.size w w' := by
  subst hv
  have hb0 : Below w.heap.size w (w.alloc (.cells #[.int .i64 ad, .int .i64 o, .int .i64 a, .int .i64 b, .int .i64 m] 35)) := below_box _
  have hX0 : (w.alloc (.cells #[.int .i64 ad, .int .i64 o, .int .i64 a, .int .i64 b, .int .i64 m] 35)).heap[w.heap.size]? = some (.cells #[.int .i64 ad, .int .i64 o, .int .i64 a, .int .i64 b, .int .i64 m] 35) := heap_alloc_new w _
  have hT1 : Tab (w.alloc (.cells #[.int .i64 ad, .int .i64 o, .int .i64 a, .int .i64 b, .int .i64 m] 35)) := hT.below hb0 hT.pos
  have HZ : Hid (∀ w', Tab w' → Calls Tryd.prog 37 #[.int .i64 o] w' fun e w'' => e = .returned (.tuple #[.int .i64 (sz o), .bool true]) ∧ w' = w'') := fun w' h => size_yes o w' h ho0 ho1
  obtain ⟨cl, hcl⟩ : ∃ c, lnn ⟨ad, o, a, b, m⟩ = c := ⟨_, rfl⟩
  obtain ⟨cs, hcs⟩ : ∃ c, sd ⟨ad, o, a, b, m⟩ = c := ⟨_, rfl⟩
  obtain ⟨cf, hcf⟩ : ∃ c, fit ⟨ad, o, a, b, m⟩ = c := ⟨_, rfl⟩
  have HL : Hid (∀ w', Tab w' → Calls Tryd.prog 41 #[iV ad o a b m] w' fun e w'' => e = .returned (.bool cl) ∧ Grew w' w'') := fun w' h => by rw [← hcl]; exact lean_any _ _ _ _ _ w' h ho0 ho1
  have HS : Hid (∀ w', Calls Tryd.prog 40 #[iV ad o a b m] w' fun e w'' => e = .returned (.bool cs) ∧ Grew w' w'') := fun w' => by rw [← hcs]; exact sound_any _ _ _ _ _ w'
  have HF : Hid (∀ w', Tab w' → Calls Tryd.prog 42 #[iV ad o a b m] w' fun e w'' => e = .returned (.bool cf) ∧ Grew w' w'') := fun w' h => by rw [← hcf]; exact fits_any _ _ _ _ _ w' h ho0 ho1 hm.1 hm.2
  have HC : Hid (∀ z, Below w.heap.size w z → z.heap[w.heap.size]? = some (.cells #[.int .i64 ad, .int .i64 o, .int .i64 a, .int .i64 b, .int .i64 m] 35) → (z.cell? ⟨w.heap.size, 0, none⟩ = some (.int .i64 ad) ∧ z.cell? ⟨w.heap.size, 1, none⟩ = some (.int .i64 o) ∧ z.cell? ⟨w.heap.size, 2, none⟩ = some (.int .i64 a) ∧ z.cell? ⟨w.heap.size, 3, none⟩ = some (.int .i64 b) ∧ z.cell? ⟨w.heap.size, 4, none⟩ = some (.int .i64 m)) ∧ Tab z) := fun z hz hx => ⟨cells5 hx, hT.below hz hT.pos⟩
  have HG : Hid (∀ y z, Below w.heap.size w y → y.heap[w.heap.size]? = some (.cells #[.int .i64 ad, .int .i64 o, .int .i64 a, .int .i64 b, .int .i64 m] 35) → Grew y z → Below w.heap.size w z ∧ z.heap[w.heap.size]? = some (.cells #[.int .i64 ad, .int .i64 o, .int .i64 a, .int .i64 b, .int .i64 m] 35)) := fun y z hy hx hg => ⟨hy.trans (hg.below.mono hy.size), (hg.below.block _ (Array.getElem?_eq_some_iff.1 hx).1).trans hx⟩
  have HX0 := hide hX0
  have HB0 := hide hb0
  have HT1 := hide hT1
  have hE : putE ⟨ad, o, a, b, m⟩ = if cl = true then (if cs = true then (if cf = true then 0 else 130) else 132) else 130 := by
    unfold putE
    rw [hcl, hcs, hcf]
    by_cases h1 : cl = true
    · rw [if_pos ⟨⟨ho0, ho1⟩, h1⟩, if_pos h1]
    · rw [if_neg (fun z => h1 z.2), if_neg h1]
  rw [hE] at h ⊢
  clear hT hcl hcs hcf hb0 hX0 hT1 hE
  cases cl with
  | false =>
    clear h
    go_enter Tryd.func32, Tryd.ntmps32
    go_wp2_with (first
      | (go_at_call 37; refine (unhide HZ _ (unhide HT1)).mono ?_; rintro e w2 ⟨rfl, rfl⟩)
      | (go_at_call 41; refine (unhide HL _ (unhide HT1)).mono ?_; rintro e z1 ⟨rfl, g1⟩; obtain ⟨q1, x1⟩ := unhide HG _ _ (unhide HB0) (unhide HX0) g1))
    refine (must_no _ _).mono ?_
    rintro e w2 ⟨rfl, rfl⟩
    exact ⟨rfl, rfl, q1⟩
  | true =>
    cases cs with
    | false =>
      clear h
      go_enter Tryd.func32, Tryd.ntmps32
      go_wp2_with (first
        | (go_at_call_of 27 (Value.bool true); refine (must_ok _ _).mono ?_; rintro e w2 ⟨rfl, rfl⟩)
        | (go_at_call 37; refine (unhide HZ _ (unhide HT1)).mono ?_; rintro e w2 ⟨rfl, rfl⟩)
        | (go_at_call 41; refine (unhide HL _ (unhide HT1)).mono ?_; rintro e z1 ⟨rfl, g1⟩; obtain ⟨q1, x1⟩ := unhide HG _ _ (unhide HB0) (unhide HX0) g1; obtain ⟨⟨c0, c1, c2, c3, c4⟩, -⟩ := unhide HC z1 q1 x1; have Q1 := hide q1; have X1 := hide x1; clear q1 x1 g1)
        | (go_at_call 40; refine (unhide HS _).mono ?_; rintro e z2 ⟨rfl, g2⟩; obtain ⟨q2, x2⟩ := unhide HG _ _ (unhide Q1) (unhide X1) g2))
      refine (must_no _ _).mono ?_
      rintro e w2 ⟨rfl, rfl⟩
      exact ⟨rfl, rfl, q2⟩
    | true =>
      cases cf with
      | true => exact absurd rfl h
      | false =>
        clear h
        go_enter Tryd.func32, Tryd.ntmps32
        go_wp2_with (first
          | (go_at_call_of 27 (Value.bool true); refine (must_ok _ _).mono ?_; rintro e w2 ⟨rfl, rfl⟩)
          | (go_at_call 37; refine (unhide HZ _ (unhide HT1)).mono ?_; rintro e w2 ⟨rfl, rfl⟩)
          | (go_at_call 41; refine (unhide HL _ (unhide HT1)).mono ?_; rintro e z1 ⟨rfl, g1⟩; obtain ⟨q1, x1⟩ := unhide HG _ _ (unhide HB0) (unhide HX0) g1; obtain ⟨⟨c0, c1, c2, c3, c4⟩, -⟩ := unhide HC z1 q1 x1; have Q1 := hide q1; have X1 := hide x1; clear q1 x1 g1)
          | (go_at_call 40; refine (unhide HS _).mono ?_; rintro e z2 ⟨rfl, g2⟩; obtain ⟨q2, x2⟩ := unhide HG _ _ (unhide Q1) (unhide X1) g2; obtain ⟨⟨d0, d1, d2, d3, d4⟩, t2⟩ := unhide HC z2 q2 x2; have T2 := hide t2; have Q2 := hide q2; have X2 := hide x2; clear q2 x2 t2 g2 c0 c1 c2 c3 c4)
          | (go_at_call 42; refine (unhide HF _ (unhide T2)).mono ?_; rintro e z3 ⟨rfl, g3⟩; obtain ⟨q3, x3⟩ := unhide HG _ _ (unhide Q2) (unhide X2) g3))
        refine (must_no _ _).mono ?_
        rintro e w2 ⟨rfl, rfl⟩
        exact ⟨rfl, rfl, q3⟩

/-- put. -/
theorem put_any {w : World} {base n : Nat} {v : Value} {L : List Int} (x : Ins) (hT : Tab w) (hm : I64 x.im) (hown : w.ownsRow base 5 1 v n (L.flatMap yC)) (hn : n + 5 ≤ 140737488355328) (hb : base ≤ w.heap.size) (h0 : 0 < base) :
    Calls Tryd.prog 32 #[v, iW x] w fun e w' => Below base w w' ∧ (putE x = 0 → ∃ y, e = .returned y ∧ w'.ownsRow base 5 1 y (n + (putB x).length) ((L ++ putB x).flatMap yC)) ∧ (putE x ≠ 0 → e = GiveUp (putE x)) := by
  obtain ⟨ad, o, a, b, m⟩ := x
  obtain ⟨va, vc, hv⟩ := own_shape hown
  by_cases hop : 0 ≤ o ∧ o < 28
  · by_cases he : putE ⟨ad, o, a, b, m⟩ = 0
    · obtain ⟨_, h1, h2, h3⟩ := putE_op he
      obtain ⟨f1, f2, f3, f4, f5, f6⟩ := op_facts hop.1 hop.2
      have key : ∀ r d : Nat, rg o = r → wd o = d → (Calls Tryd.prog 32 #[v, iV ad o a b m] w fun e w' => ∃ y, e = .returned y ∧ w'.ownsRow base 5 1 y (n + (1 + r + d)) ((L ++ ([o] ++ (if r = 0 then [] else if r = 1 then [a] else [a, b]) ++ (if d = 0 then [] else if d = 1 then [m % 256] else [m % 256, m / 256 % 256]))).flatMap yC) ∧ Below base w w') →
          Calls Tryd.prog 32 #[v, iV ad o a b m] w fun e w' => Below base w w' ∧ (putE ⟨ad, o, a, b, m⟩ = 0 → ∃ y, e = .returned y ∧ w'.ownsRow base 5 1 y (n + (putB ⟨ad, o, a, b, m⟩).length) ((L ++ putB ⟨ad, o, a, b, m⟩).flatMap yC)) ∧ (putE ⟨ad, o, a, b, m⟩ ≠ 0 → e = GiveUp (putE ⟨ad, o, a, b, m⟩)) := fun r d hr hd hc => hc.mono fun e w' h => by
        obtain ⟨y, rfl, ho, hbl⟩ := h
        have hl : (putB ⟨ad, o, a, b, m⟩).length = 1 + r + d := by have := putB_len (x := ⟨ad, o, a, b, m⟩) hop; rw [f3] at this; omega
        refine ⟨hbl, fun _ => ⟨y, rfl, ?_⟩, fun z => absurd he z⟩
        rw [hl]
        unfold putB
        rw [hr, hd]
        exact ho
      rcases (by omega : rg o = 0 ∨ rg o = 1 ∨ rg o = 2) with hr | hr | hr <;> rcases (by omega : wd o = 0 ∨ wd o = 1 ∨ wd o = 2) with hd | hd | hd <;> refine key _ _ hr hd ?_
      · exact put00 w base n v L ad o a b m hT hop.1 hop.2 (by omega) (by omega) h1 h2 h3 hm.1 hm.2 hown hn hb h0
      · exact put01 w base n v L ad o a b m hT hop.1 hop.2 (by omega) (by omega) h1 h2 h3 hm.1 hm.2 hown hn hb h0
      · exact put02 w base n v L ad o a b m hT hop.1 hop.2 (by omega) (by omega) h1 h2 h3 hm.1 hm.2 hown hn hb h0
      · exact put10 w base n v L ad o a b m hT hop.1 hop.2 (by omega) (by omega) h1 h2 h3 hm.1 hm.2 hown hn hb h0
      · exact put11 w base n v L ad o a b m hT hop.1 hop.2 (by omega) (by omega) h1 h2 h3 hm.1 hm.2 hown hn hb h0
      · exact put12 w base n v L ad o a b m hT hop.1 hop.2 (by omega) (by omega) h1 h2 h3 hm.1 hm.2 hown hn hb h0
      · exact put20 w base n v L ad o a b m hT hop.1 hop.2 (by omega) (by omega) h1 h2 h3 hm.1 hm.2 hown hn hb h0
      · exact put21 w base n v L ad o a b m hT hop.1 hop.2 (by omega) (by omega) h1 h2 h3 hm.1 hm.2 hown hn hb h0
      · exact put22 w base n v L ad o a b m hT hop.1 hop.2 (by omega) (by omega) h1 h2 h3 hm.1 hm.2 hown hn hb h0
    · exact (put_bad v n va vc hv ad o a b m w hT hop.1 hop.2 hm he).mono fun e w' h => ⟨h.2.mono hb, fun z => absurd z he, fun _ => h.1⟩
  · have he : putE ⟨ad, o, a, b, m⟩ = 130 := if_neg fun z => hop z.1
    rw [he]
    exact (put_op v n va vc hv ad o a b m w hop).mono fun e w' h => ⟨h.2.mono hb, fun z => absurd z (by decide), fun _ => h.1⟩
end Go.Proofs.YtknpfippdddnhabDoor
