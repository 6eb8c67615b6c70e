/- Checkpoints: the pages of a half, read in turn until one fails: the iterator. -/
import Derived.Test.YtiijbklaapaheaaCJ
import Derived.Test.YtiijbklaapaheaaLawT
import Derived.Stop.RegionWithIn
namespace Go.Proofs.Ytiijbklaapaheaa
open Go.RowKit Go.Shelf
set_option maxRecDepth 100000
attribute [local go_sem] Oper.semAt_some

/-- Three blocks stay as they are. -/
structure K3 (a b c : Nat) (A B : World) : Prop where
  one : B.heap[a]? = A.heap[a]?
  two : B.heap[b]? = A.heap[b]?
  three : B.heap[c]? = A.heap[c]?
theorem K3.refl (a b c : Nat) (A : World) : K3 a b c A A := ⟨rfl, rfl, rfl⟩
theorem K3.trans {a b c : Nat} {A B C : World} (h : K3 a b c A B) (k : K3 a b c B C) : K3 a b c A C := ⟨k.one.trans h.one, k.two.trans h.two, k.three.trans h.three⟩
theorem K3.of {a b c N : Nat} {A B : World} (h : Below N A B) (ha : a < N) (hb : b < N) (hc : c < N) : K3 a b c A B := ⟨h.block a ha, h.block b hb, h.block c hc⟩

/-- What so many pages from one on show, until one fails. -/
def pgs (F : Fl) (f : Nat) : Nat → Nat → List (List Int)
  | _, 0 => []
  | i, k + 1 => if F.readE ((f + i / 16 : Nat) : Int) ((i % 16 : Nat) : Int) ≠ 0 then [] else F.readB ((f + i / 16 : Nat) : Int) ((i % 16 : Nat) : Int) :: pgs F f (i + 1) k
theorem pgs_succ (F : Fl) (f i k : Nat) : pgs F f i (k + 1) = if F.readE ((f + i / 16 : Nat) : Int) ((i % 16 : Nat) : Int) ≠ 0 then [] else F.readB ((f + i / 16 : Nat) : Int) ((i % 16 : Nat) : Int) :: pgs F f (i + 1) k := rfl

theorem abides_below {α : Type} {B : Nat} {J : α → World → Prop} (h : AbidesFrom B J) {s : α} {A C : World} (hs : J s A) (hb : Below A.heap.size A C) : J s C :=
  h s A C none hs ⟨hb.os, hb.tape, hb.output, hb.size, fun k hk _ => hb.block k hk⟩ (fun r e => by cases e)

set_option maxHeartbeats 4000000 in
theorem pages1_in (l hx g h cap f n M : Nat) (hM : 1 ≤ M) (F : Fl) (hP : ∀ i j, (F.readB i j).length ≤ 256) (hf : f ≤ 1099511627776) (hn : n ≤ 1048576) (J : List (Value × List Int) → World → Prop) (hJb : ∀ s A C, J s A → Below A.heap.size A C → J s C)
    (hY : ∀ pre x W, J pre W → (Sees W .u8 x.1 x.2 ∧ x.2.length ≤ 256) → pre.length < n * 16 → YieldAt Fence.wide (M - 1) Try.prog l #[x.1] W fun e W' => e = .returned (.bool true) ∧ J (pre ++ [x]) W' ∧ K3 hx g h W W')
    (W : World) (H : IsFl W g h cap F) (hc : W.cell? ⟨hx, 0, none⟩ = some (P0 h) ∧ W.cell? ⟨hx, 1, none⟩ = some (.int .i64 f) ∧ W.cell? ⟨hx, 2, none⟩ = some (.int .i64 n)) (h0 : J [] W) :
    CallsIn Fence.wide M Try.prog 104 #[.func (.yield l) #[] #[], .pointer (some ⟨hx, 0, none⟩)] W fun e W' => (∃ v, e = .returned v) ∧ ∃ xs : List (Value × List Int), xs.map Prod.snd = pgs F f 0 (n * 16) ∧ J xs W' := by
  refine callsIn_of_wp Try.func104 rfl trivial ?_ rfl
  simp only [Try.ntmps104, List.size_toArray, List.length_cons, List.length_nil, Nat.reduceAdd, Nat.reduceSub, Array.replicate_succ, Array.replicate_zero, List.push_toArray, List.append_toArray, List.nil_append, List.cons_append]
  have HY := hide hY
  obtain ⟨q0, q1, q2⟩ := hc
  have HB : Hid (∀ x, K3 hx g h W x → (x.cell? ⟨hx, 0, none⟩ = some (P0 h) ∧ x.cell? ⟨hx, 1, none⟩ = some (.int .i64 f) ∧ x.cell? ⟨hx, 2, none⟩ = some (.int .i64 n)) ∧ IsFl x g h cap F) := fun x hk =>
    ⟨⟨(World.cell?_of_block (w := W) (a := ⟨hx, 0, none⟩) hk.one).trans q0, (World.cell?_of_block (w := W) (a := ⟨hx, 1, none⟩) hk.one).trans q1, (World.cell?_of_block (w := W) (a := ⟨hx, 2, none⟩) hk.one).trans q2⟩, H.keepB hk.two hk.three⟩
  clear hY H
  gi_wp2
  gi_loopw [9] (fun i wr => ∃ k : Nat, k ≤ n * 16 ∧ i = .int .i64 (k : Int) ∧ ∃ xs, J xs wr ∧ xs.length = k ∧ pgs F f 0 (n * 16) = xs.map Prod.snd ++ pgs F f k (n * 16 - k) ∧ K3 hx g h W wr)
    (fun i _ => n * 16 - (intOf i).toNat)
  case atStart => exact ⟨0, Nat.zero_le _, rfl, [], h0, rfl, rfl, K3.refl _ _ _ _⟩
  case round =>
    obtain ⟨k, hk, rfl, xs, hJs, hxl, hE, hnx⟩ := hrel
    obtain ⟨⟨b0, b1, b2⟩, hI⟩ := unhide HB wr hnx
    have HJ := hide hJs
    have HNX := hide hnx
    have HI := hide hI
    have HE := hide hE
    have hl1 : hx < wr.heap.size := World.block_lt_of_cell? wr _ b0
    have hl2 := hI.glt; have hl3 := hI.hlt
    clear hJs hnx hI hE q0 q1 q2
    by_cases hlt : k < n * 16
    · have hdb : decide ((k : Int) < (n : Int) * 16) = true := by simp; omega
      have HPG : Hid (∀ x, Calls Try.prog 77 #[.agg #[P0 h, .int .i64 f, .int .i64 n], .int .i64 k] x fun e w' => e = .returned (.tuple #[.int .i64 ((f + k / 16 : Nat) : Int), .int .i64 ((k % 16 : Nat) : Int)]) ∧ Below x.heap.size x w') := fun x => page_any h f k n x hf (by omega)
      have HRD : Hid (∀ x, IsFl x g h cap F → Calls Try.prog 22 #[P0 h, .int .i64 ((f + k / 16 : Nat) : Int), .int .i64 ((k % 16 : Nat) : Int)] x fun e w' => ∃ v, e = .returned (.tuple #[v, .int .i64 (F.readE ((f + k / 16 : Nat) : Int) ((k % 16 : Nat) : Int))]) ∧ Sees w' .u8 v (F.readB ((f + k / 16 : Nat) : Int) ((k % 16 : Nat) : Int)) ∧ Below x.heap.size x w') := fun x hx' => read_all hx' _ _
      have HW : Hid (∀ x, Below wr.heap.size wr x → (x.cell? ⟨hx, 0, none⟩ = some (P0 h) ∧ x.cell? ⟨hx, 1, none⟩ = some (.int .i64 f) ∧ x.cell? ⟨hx, 2, none⟩ = some (.int .i64 n)) ∧ IsFl x g h cap F) := fun x hb => unhide HB x ((unhide HNX).trans (K3.of hb (by omega) (by omega) (by omega)))
      obtain ⟨m, hmk⟩ : ∃ m, n * 16 - k = m + 1 := ⟨n * 16 - k - 1, by omega⟩
      have HE1 : Hid (pgs F f 0 (n * 16) = xs.map Prod.snd ++ (if F.readE ((f + k / 16 : Nat) : Int) ((k % 16 : Nat) : Int) ≠ 0 then [] else F.readB ((f + k / 16 : Nat) : Int) ((k % 16 : Nat) : Int) :: pgs F f (k + 1) m)) := by
        have := unhide HE
        rw [hmk, pgs_succ] at this
        exact this
      clear HE
      have hrb := hP ((f + k / 16 : Nat) : Int) ((k % 16 : Nat) : Int)
      generalize F.readE ((f + k / 16 : Nat) : Int) ((k % 16 : Nat) : Int) = er at HRD HE1
      generalize F.readB ((f + k / 16 : Nat) : Int) ((k % 16 : Nat) : Int) = rb at HRD HE1 hrb
      by_cases ce : er = 0
      · subst ce
        have HE2 := hide ((unhide HE1).trans (congrArg _ (if_neg (by simp))))
        clear HE1
        gi_wp2
        gi_region_with (refine ⟨trivial, ?_⟩; first
          | (refine ((callsIn_wide).2 (unhide HPG _)).mono ?_; rintro e w1 ⟨rfl, hb1⟩; obtain ⟨⟨d0, d1, d2⟩, hI1⟩ := unhide HW w1 ((Below.refl _ _).drew.trans hb1); have HI1 := hide hI1; have HB1 := hide hb1; clear hI1 hb1)
          | (refine ((callsIn_wide).2 (unhide HRD _ (unhide HI1))).mono ?_; rintro e w2 ⟨v, rfl, s2, hb2⟩; have HSV := hide s2; have HB2 := hide (((Below.refl _ _).drew.trans (unhide HB1)).trans (hb2.mono (unhide HB1).size)); clear s2 hb2))
        all_goals
          obtain ⟨fn, tmps, assign, body, hy, hRR⟩ := unhide HY xs (v, rb) w2 (hJb _ _ _ (unhide HJ) (unhide HB2)) ⟨unhide HSV, hrb⟩ (by omega)
          dsimp only at hy
          gi_wp2
          refine hRR.mono ?_
          rintro e W3 ⟨rfl, hJ3, hk3⟩
          have HJ3 := hide hJ3
          have HK3 := hide ((unhide HNX).trans ((K3.of (unhide HB2) hl1 hl2 hl3).trans hk3))
          clear hJ3 hk3
          gi_wp2
          go_roundw
          case rel => first | exact ⟨k + 1, by omega, by go_num, xs ++ [(v, rb)], unhide HJ3, by rw [List.length_append, hxl]; rfl, by rw [unhide HE2, List.map_append, List.append_assoc, show n * 16 - (k + 1) = m by omega]; rfl, unhide HK3⟩ | ((repeat apply Exists.intro); exact ⟨⟨k + 1, by omega, by go_num, xs ++ [(v, rb)], unhide HJ3, by rw [List.length_append, hxl]; rfl, by rw [unhide HE2, List.map_append, List.append_assoc, show n * 16 - (k + 1) = m by omega]; rfl, unhide HK3⟩, rfl⟩)
          case measure => simp [intOf]; omega
      · have HE2 := hide ((unhide HE1).trans (congrArg _ (if_pos ce)))
        have ce' : (er != 0) = true := by simpa using ce
        clear HE1
        gi_wp2
        gi_region_with (refine ⟨trivial, ?_⟩; first
          | (refine ((callsIn_wide).2 (unhide HPG _)).mono ?_; rintro e w1 ⟨rfl, hb1⟩; obtain ⟨⟨d0, d1, d2⟩, hI1⟩ := unhide HW w1 ((Below.refl _ _).drew.trans hb1); have HI1 := hide hI1; have HB1 := hide hb1; clear hI1 hb1)
          | (refine ((callsIn_wide).2 (unhide HRD _ (unhide HI1))).mono ?_; rintro e w2 ⟨v, rfl, s2, hb2⟩; have HSV := hide s2; have HB2 := hide (((Below.refl _ _).drew.trans (unhide HB1)).trans (hb2.mono (unhide HB1).size)); clear s2 hb2))
        all_goals
          gi_wp2
          refine ⟨fun _ h => (by cases h), ?_⟩
          gi_wp2
          refine bodyPost_ret (results_none rfl _ _ _) rfl ?_
          exact ⟨⟨_, rfl⟩, xs, by rw [unhide HE2, List.append_nil], hJb _ _ _ (unhide HJ) (unhide HB2)⟩
    · obtain rfl : k = n * 16 := by omega
      have hdb : decide (((n * 16 : Nat) : Int) < (n : Int) * 16) = false := by simp
      gi_wp2
      go_end0
      refine ⟨⟨_, rfl⟩, xs, ?_, unhide HJ⟩
      rw [unhide HE, Nat.sub_self]
      simp [pgs]
end Go.Proofs.Ytiijbklaapaheaa
