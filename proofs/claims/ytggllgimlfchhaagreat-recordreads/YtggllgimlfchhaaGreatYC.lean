/- Record: keys, written. -/
import Derived.Test.YtggllgimlfchhaaGreatYB
namespace Go.Proofs.YtggllgimlfchhaaGreat
open Go.RowKit
set_option maxRecDepth 100000

theorem sees_lit (w : World) (zs : List Int) (h : zs.length ≤ 9223372036854775807) : Sees (w.alloc (.cells (ints .i64 zs).toArray 2)) .i64 (.slice (some ⟨w.heap.size, 0, none⟩) zs.length zs.length) zs :=
  (sees_of_own (own_new w .i64 zs 2 w.heap.size zs.length rfl (Nat.le_refl _) (by unfold maxLen; omega))).2
theorem i64_of {l : List Int} (h : ∀ x ∈ l, -9223372036854775808 ≤ x ∧ x ≤ 9223372036854775807) : I64 l := fun t ht => by
  have e : l.getD t 0 = l[t] := by simp [List.getD, ht]
  rw [e]
  exact h _ (List.getElem_mem ht)
/-- The numbers of keys. -/
def keyN : List (Int × Int) → List Int
  | [] => []
  | k :: l => k.1 :: k.2 :: keyN l
theorem keyN_append (a b : List (Int × Int)) : keyN (a ++ b) = keyN a ++ keyN b := by
  induction a with
  | nil => rfl
  | cons x r ih => simp [keyN, ih]
theorem keyN_length (l : List (Int × Int)) : (keyN l).length = 2 * l.length := by
  induction l with
  | nil => rfl
  | cons x r ih => simp [keyN, ih]; omega
/-- Keys that lie in memory. -/
def OkK (l : List (Int × Int)) : Prop := ∀ k ∈ l, (-2147483648 ≤ k.1 ∧ k.1 ≤ 2147483647) ∧ (-9223372036854775808 ≤ k.2 ∧ k.2 ≤ 9223372036854775807)
theorem OkK.at {l : List (Int × Int)} (h : OkK l) {t : Nat} (ht : t < l.length) : (-2147483648 ≤ (l.getD t (0, 0)).1 ∧ (l.getD t (0, 0)).1 ≤ 2147483647) ∧ (-9223372036854775808 ≤ (l.getD t (0, 0)).2 ∧ (l.getD t (0, 0)).2 ≤ 9223372036854775807) := by
  have e : l.getD t (0, 0) = l[t] := by simp [List.getD, ht]
  rw [e]
  exact h _ (List.getElem_mem ht)

set_option maxHeartbeats 800000 in
theorem key_any {w : World} {B lo : Nat} {xs : List Int} (h : Wr w B lo xs) (a b : Int) (ha : -2147483648 ≤ a ∧ a ≤ 2147483647) (hb : -9223372036854775808 ≤ b ∧ b ≤ 9223372036854775807) (hn : xs.length ≤ 274877906944) :
    Calls Tryz.prog 121 #[.agg #[.pointer (some ⟨B, 0, none⟩)], .agg #[.int .i32 a, .int .i64 b]] w fun e w' => e = .returned (.tuple #[]) ∧ Wr w' B lo (xs ++ putL [a, b]) ∧ Wrote B lo w w' := by
  have hwa : IntKind.i64.wrap a = a := wrap_i64 _ (by omega) (by omega)
  have hal : Below w.heap.size w (((w.alloc (.cells #[.pointer (some ⟨B, 0, none⟩)] 65)).alloc (.cells #[.int .i32 a, .int .i64 b] 90)).alloc (.cells #[.int .i64 a, .int .i64 b] 2)) := ((((Below.refl _ _).alloc (Nat.le_refl _) _).alloc (by simp) _).alloc (by simp; omega) _)
  have hs := sees_lit ((w.alloc (.cells #[.pointer (some ⟨B, 0, none⟩)] 65)).alloc (.cells #[.int .i32 a, .int .i64 b] 90)) [a, b] (by simp)
  have hsz : sizeL [a, b] ≤ 18 := sizeL_le [a, b]
  have HN := hide (nums_any (h.below hal) _ [a, b] hs (by simp) (i64_of fun x hx => by simp at hx; rcases hx with rfl | rfl <;> omega) (by omega))
  have HW : Hid (Wrote B lo w _) := Wrote.of hal
  clear h hal hs hsz ha hb
  go_enter Tryz.func121, Tryz.ntmps121
  go_wp2_with fail
  simp only [List.length_cons, List.length_nil, Nat.reduceAdd, World.size_alloc] at HN
  refine (unhide HN).mono ?_
  rintro e w2 ⟨rfl, h1, h2⟩
  have HR : Hid (Wr w2 B lo (xs ++ putL [a, b]) ∧ Wrote B lo w w2) := ⟨h1, (unhide HW).trans h2⟩
  clear h1 h2
  go_wp2_with fail
  go_end0
  exact ⟨rfl, unhide HR⟩

theorem take_keys (l : List (Int × Int)) (t : Nat) (ht : t < l.length) : keyN (l.take (t + 1)) = keyN (l.take t) ++ [(l.getD t (0, 0)).1, (l.getD t (0, 0)).2] := by
  have e : l.take (t + 1) = l.take t ++ [l.getD t (0, 0)] := by
    rw [List.take_add_one]
    simp [List.getD, ht]
  rw [e, keyN_append]
  rfl

set_option maxHeartbeats 1600000 in
theorem putKeys_any {w : World} {B lo N : Nat} {xs : List Int} (h : Wr w B lo xs) (v : Value) (l : List (Int × Int)) (hN : N ≤ B) (hK : ∀ w', Below N w w' → SeesK w' v l) (hk : OkK l) (hl : l.length ≤ 4096) (hn : xs.length ≤ 137438953472) :
    Calls Tryz.prog 120 #[.pointer (some ⟨B, 0, none⟩), v, .func (.func 121) #[.agg #[.pointer (some ⟨B, 0, none⟩)]] #[]] w fun e w' => e = .returned (.tuple #[]) ∧ Wr w' B lo (xs ++ putL ((l.length : Int) :: keyN l)) ∧ Wrote B lo w w' := by
  have hlt := h.lt; have hle := h.le
  have HK := hide hK
  obtain ⟨ao, cap, _, _, rfl, hcap, _⟩ := hK w (Below.refl _ _)
  have hal : Below w.heap.size w (w.alloc (.cells #[.int .i64 (l.length : Int)] 2)) := (Below.refl _ _).alloc (Nat.le_refl _) _
  have hs := sees_lit w [(l.length : Int)] (by simp)
  have hsz : sizeL [(l.length : Int)] ≤ 9 := sizeL_le [(l.length : Int)]
  have HN := hide (nums_any (h.below hal) _ [(l.length : Int)] hs (by simp) (i64_of fun x hx => by simp at hx; subst hx; omega) (by omega))
  have HW : Hid (Wrote B lo w _) := Wrote.of hal
  have HOK := hide hk
  have HWB : Hid (∀ w', Wrote B lo w w' → Below N w w') := fun w' k => k.below hN (by omega) (by omega)
  clear h hal hs hsz hK hk hlt hle
  go_enter Tryz.func120, Tryz.ntmps120
  go_wp2_with fail
  simp only [List.length_cons, List.length_nil, Nat.reduceAdd] at HN
  refine (unhide HN).mono ?_
  rintro e w2 ⟨rfl, h1, h2⟩
  have HR : Hid (Wr w2 B lo (xs ++ putL [(l.length : Int)]) ∧ Wrote B lo w w2) := ⟨h1, (unhide HW).trans h2⟩
  clear h1 h2 HN
  go_wp2
  go_loopw [15] (fun c wr => ∃ t : Nat, t ≤ l.length ∧ c = .int .i64 t ∧ Wr wr B lo (xs ++ putL ((l.length : Int) :: keyN (l.take t))) ∧ Wrote B lo w wr) (fun c _ => l.length - (intOf c).toNat)
  case atStart => exact ⟨0, by omega, rfl, (unhide HR).1, (unhide HR).2⟩
  case round =>
    obtain ⟨t, ht, rfl, hw, hwr⟩ := hrel
    by_cases hlt : t < l.length
    · obtain ⟨ao', cap', gb, ob, hv, _, _, hao, hcl⟩ := unhide HK wr (unhide HWB _ hwr)
      simp only [Value.slice.injEq, true_and] at hv
      obtain ⟨rfl, rfl⟩ := hv
      obtain rfl := hao (by omega)
      obtain ⟨c0, c1⟩ := hcl t hlt
      have hok := (unhide HOK).at hlt
      have htk := take_keys l t hlt
      obtain ⟨k, hk⟩ : ∃ k, l.getD t (0, 0) = k := ⟨_, rfl⟩
      rw [hk] at c0 c1 hok htk
      obtain ⟨a, b⟩ := k
      simp only at c0 c1 hok htk
      have hal : Below wr.heap.size wr (wr.alloc (.cells #[.int .i32 a, .int .i64 b] 90)) := (Below.refl _ _).alloc (Nat.le_refl _) _
      have hlen : (xs ++ putL ((l.length : Int) :: keyN (l.take t))).length ≤ 274877906944 := by
        rw [List.length_append, putL_length]
        have := sizeL_le ((l.length : Int) :: keyN (l.take t))
        rw [List.length_cons, keyN_length, List.length_take] at this
        omega
      have HC := hide (key_any (hw.below hal) a b hok.1 hok.2 hlen)
      have HW2 : Hid (Wrote B lo w _) := hwr.trans (Wrote.of hal)
      have HTK := hide htk
      clear hcl hao hk hok htk hw hwr hal hlen
      go_wp2_with fail
      refine (unhide HC).mono ?_
      rintro e w3 ⟨rfl, h1, h2⟩
      have HR3 : Hid (Wr w3 B lo (xs ++ putL ((l.length : Int) :: keyN (l.take (t + 1)))) ∧ Wrote B lo w w3) := ⟨by rw [unhide HTK]; rw [List.append_assoc, ← putL_append] at h1; exact h1, (unhide HW2).trans h2⟩
      clear h1 h2 HC
      go_wp2
      go_roundw
      case rel => exact ⟨t + 1, by omega, by go_num, (unhide HR3).1, (unhide HR3).2⟩
      case measure => simp [intOf]; omega
    · have HE : Hid (Wr wr B lo (xs ++ putL ((l.length : Int) :: keyN l)) ∧ Wrote B lo w wr) := by
        rw [List.take_of_length_le (by omega)] at hw
        exact ⟨hw, hwr⟩
      clear hw hwr
      go_wp2
      go_end0
      exact ⟨rfl, unhide HE⟩
end Go.Proofs.YtggllgimlfchhaaGreat
