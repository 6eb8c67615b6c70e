/- Bytes in pieces of 256: the iterator of slices.Chunk. -/
import Derived.Test.YtiijbklaapaheaaUB
namespace Go.Proofs.Ytiijbklaapaheaa
open Go.RowKit Go.Shelf
set_option maxRecDepth 100000
attribute [local go_sem] Oper.semAt_some

/-- The piece at a place: where it begins, how long it is. -/
abbrev chV (b len x : Nat) : Value := .slice (some ⟨b, x * 256, none⟩) (min 256 (len - x * 256)) (min 256 (len - x * 256))
/-- How many pieces. -/
def chN (len : Nat) : Nat := (len + 255) / 256

set_option maxRecDepth 100000 in
set_option maxHeartbeats 2000000 in
theorem chunk1_in (F : Fence) (n : Nat) (h7 : F.fn 95) (hro : F.round = none) (hn : 1 ≤ n) (l sb nb b len cap : Nat) (hlc : len ≤ cap) (hreach : len ≤ 1048576) (J Jx : List Nat → World → Prop) (hJd : ∀ s A, J s A → J s A.drew)
    (hY : ∀ pre x W, J pre W → pre.length < chN len → YieldAt F (n - 1) Try.prog l #[chV b len x] W fun e W' =>
      (e = .returned (.bool true) ∧ J (pre ++ [x]) W' ∧ KT sb nb W W') ∨ (e = .returned (.bool false) ∧ Jx (pre ++ [x]) W'))
    (W : World) (hsb : W.cell? ⟨sb, 0, none⟩ = some (.slice (some ⟨b, 0, none⟩) len cap)) (hnb : W.cell? ⟨nb, 0, none⟩ = some (.int .i64 256)) (h0 : J [] W) :
    CallsIn F n Try.prog 95 #[.func (.yield l) #[] #[], .pointer (some ⟨sb, 0, none⟩), .pointer (some ⟨nb, 0, none⟩)] W fun e W' => (∃ v, e = .returned v) ∧
      (J (List.range (chN len)) W' ∨ (∃ k, k < chN len ∧ Jx (List.range (k + 1)) W')) := by
  refine callsIn_of_wp Try.func95 rfl h7 ?_ hro
  simp only [Try.ntmps95, List.size_toArray, List.length_cons, List.length_nil, Nat.reduceAdd, Nat.reduceSub, Array.replicate_succ, Array.replicate_zero, List.push_toArray, List.append_toArray, List.nil_append, List.cons_append]
  have HY := hide hY
  have hN : (len + 255) / 256 = chN len := rfl
  generalize chN len = N at hN HY ⊢
  clear hY
  gi_wp2
  gi_loopw [4] (fun i wr => ∃ k : Nat, k ≤ N ∧ i = .int .i64 ((k * 256 : Nat) : Int) ∧ J (List.range k) wr ∧ KT sb nb W wr)
    (fun i _ => 256 * N - (intOf i).toNat)
  case atStart => exact ⟨0, Nat.zero_le _, rfl, h0, KT.refl _ _ _⟩
  case round =>
    obtain ⟨k, hk, rfl, hJs, hnx⟩ := hrel
    have HJ := hide hJs
    have HB := hide hnx
    have hs' := (World.cell?_of_block (w := W) (a := ⟨sb, 0, none⟩) hnx.one).trans hsb
    have hn' := (World.cell?_of_block (w := W) (a := ⟨nb, 0, none⟩) hnx.two).trans hnb
    clear hJs hnx
    by_cases hlt : k < N
    · have hdb : decide (((k * 256 : Nat) : Int) < len) = true := by simp; omega
      have HJd := hide (hJd _ _ (unhide HJ))
      have HBd : Hid (KT sb nb W wr.drew) := ⟨(unhide HB).one, (unhide HB).two⟩
      have hkl : k * 256 < len := by omega
      have hs2 : wr.drew.cell? ⟨sb, 0, none⟩ = some (.slice (some ⟨b, 0, none⟩) len cap) := hs'
      have hn2 : wr.drew.cell? ⟨nb, 0, none⟩ = some (.int .i64 256) := hn'
      obtain ⟨fn, tmps, assign, body, hy, hRR⟩ := unhide HY (List.range k) k wr.drew (unhide HJd) (by rw [List.length_range]; exact hlt)
      have hle : ((k : Int) * 256 + min 256 ((len - k * 256 : Nat) : Int)).toNat - k * 256 = min 256 (len - k * 256) := by omega
      have HR : Hid (List.range (k + 1) = List.range k ++ [k]) := List.range_succ
      gi_wp2
      gi_region
      all_goals
        gi_wp2
        refine hRR.mono ?_
        rintro e W3 (⟨rfl, hJ3, hk3⟩ | ⟨rfl, hJx3⟩)
        · have HJ3 : Hid (J (List.range (k + 1)) W3) := by rw [unhide HR]; exact hJ3
          have HB3 : Hid (KT sb nb W W3) := (unhide HBd).trans hk3
          have hn3 := (World.cell?_of_block (w := W) (a := ⟨nb, 0, none⟩) (unhide HB3).two).trans hnb
          clear hJ3 hk3
          gi_wp2
          go_roundw
          case rel => first | exact ⟨k + 1, by omega, by go_num, unhide HJ3, unhide HB3⟩ | ((repeat apply Exists.intro); exact ⟨⟨k + 1, by omega, by go_num, unhide HJ3, unhide HB3⟩, rfl⟩)
          case measure => simp [intOf]; omega
        · have HJ3 : Hid (Jx (List.range (k + 1)) W3) := by rw [unhide HR]; exact hJx3
          clear hJx3
          gi_wp2
          refine bodyPost_ret (results_none rfl _ _ _) rfl ?_
          exact ⟨⟨_, rfl⟩, .inr ⟨k, hlt, unhide HJ3⟩⟩
    · obtain rfl : k = N := by omega
      have hdb : decide (((k * 256 : Nat) : Int) < len) = false := by simp; omega
      gi_wp2
      go_end0
      exact ⟨⟨_, rfl⟩, .inl (unhide HJ)⟩
end Go.Proofs.Ytiijbklaapaheaa
