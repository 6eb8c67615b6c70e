/- The document's own num, keys and TxnForm (package trivetref04): they come to the same bytes. -/
import Derived.Test.YtggllgimlfchhaaR2
import Derived.Test.YtggllgimlfchhaaYD
import Derived.Test.YtggllgimlfchhaaZE
import Derived.Deep.RegionHeld3
namespace Go.Proofs.Ytggllgimlfchhaa
open Go.RowKit
set_option maxRecDepth 100000

theorem cell_heap {w : World} {b o : Nat} {cs : Array Value} {T : TypeId} (h : w.heap[b]? = some (.cells cs T)) : w.cell? ⟨b, o, none⟩ = cs[o]? := by
  simp [World.cell?, h]
set_option maxHeartbeats 400000 in
theorem refn_any (bv lv : Value) (zs l : List Int) (w : World) (hs : Sees w .u8 bv zs) (hls : Sees w .i64 lv l) (hl : l.length ≤ 140737488351232) (hb : I64 l) (hn : zs.length + sizeL l + 8 ≤ 140737488355328) :
    Calls Try.prog 50 #[bv, lv] w fun e w' => ∃ v', e = .returned v' ∧ w'.ownsRow w.heap.size 5 1 v' (zs ++ putL l).length (ints .u8 (zs ++ putL l)) ∧ Below w.heap.size w w' := by
  have HP := hide (refPut_any bv lv zs l w hs hls hl hb hn)
  obtain ⟨a1, c1, rfl, _⟩ := hs
  obtain ⟨a2, c2, rfl, _⟩ := hls
  go_enter Try.func50, Try.ntmps50
  go_wp2_with fail
  refine (unhide HP).mono ?_
  rintro e w1 ⟨v1, rfl, ho, hb1⟩
  have HO : Hid (w1.ownsRow w.heap.size 5 1 v1 (zs ++ putL l).length (ints .u8 (zs ++ putL l)) ∧ Below w.heap.size w w1) := ⟨by rw [List.length_append, putL_length]; exact ho, hb1⟩
  clear ho hb1
  go_wp2_with fail
  go_ret
  exact ⟨_, rfl, unhide HO⟩

theorem sum_le {a b : Nat} {x : Int} (h : a ≤ 4096) (hx : x = b) (hb : b ≤ a) : -9223372036854775808 ≤ x ∧ x ≤ 9223372036854775807 := by omega

set_option maxHeartbeats 1600000 in
theorem refKeys_any (bv : Value) (zs : List Int) (v : Value) (l : List (Int × Int)) (w : World) (hs : Sees w .u8 bv zs) (hK : SeesK w v l) (hk : OkK l) (hl : l.length ≤ 4096) (hn : zs.length ≤ 137438953472) :
    Calls Try.prog 51 #[bv, v] w fun e w' => ∃ v', e = .returned v' ∧ w'.ownsRow w.heap.size 5 1 v' (zs ++ putL ((l.length : Int) :: keyN l)).length (ints .u8 (zs ++ putL ((l.length : Int) :: keyN l))) ∧ Below w.heap.size w w' := by
  have HK := hide hK
  obtain ⟨ao, cap, _, _, rfl, hcap, _⟩ := hK
  have hal : Below w.heap.size w (w.alloc (.cells #[.int .i64 (l.length : Int)] 2)) := (Below.refl _ _).alloc (Nat.le_refl _) _
  have hsz : sizeL [(l.length : Int)] ≤ 9 := sizeL_le [(l.length : Int)]
  have HN := hide (refn_any bv _ zs [(l.length : Int)] _ (hs.below hal) (sees_lit w [(l.length : Int)] (by simp)) (by simp) (i64_of fun x hx => by simp at hx; subst hx; omega) (by omega))
  have HOK := hide hk
  have HAL := hide hal
  obtain ⟨a1, c1, rfl, _⟩ := hs
  clear hal hsz hk
  go_enter Try.func51, Try.ntmps51
  go_wp2_with fail
  simp only [List.length_cons, List.length_nil, Nat.reduceAdd] at HN
  refine (unhide HN).mono ?_
  rintro e w2 ⟨v2, rfl, h1, h2⟩
  have HR : Hid (w2.ownsRow w.heap.size 5 1 v2 (zs ++ putL ((l.length : Int) :: keyN (l.take 0))).length (ints .u8 (zs ++ putL ((l.length : Int) :: keyN (l.take 0)))) ∧ Below w.heap.size w w2) := ⟨own_mono h1 (by simp), (unhide HAL).trans (h2.mono (by simp))⟩
  clear h1 h2 HN
  go_wp2
  go_loopw [0, 5] (fun b c wr => ∃ t : Nat, t ≤ l.length ∧ c = .int .i64 t ∧ wr.ownsRow w.heap.size 5 1 b (zs ++ putL ((l.length : Int) :: keyN (l.take t))).length (ints .u8 (zs ++ putL ((l.length : Int) :: keyN (l.take t)))) ∧ Below w.heap.size w wr) (fun _ c _ => l.length - (intOf c).toNat)
  case atStart => exact ⟨0, by omega, rfl, (unhide HR).1, (unhide HR).2⟩
  case round =>
    obtain ⟨t, ht, rfl, ho, hb⟩ := hrel
    by_cases hlt : t < l.length
    · obtain ⟨ao', cap', gb, ob, hv, _, _, hao, hcl⟩ := (unhide HK).below hb
      simp only [Value.slice.injEq, true_and] at hv
      obtain ⟨rfl, rfl⟩ := hv
      obtain rfl := hao (by omega)
      obtain ⟨c0, c1⟩ := hcl t hlt
      have hok := (unhide HOK).at hlt
      have htk := take_keys l t hlt
      obtain ⟨k, hk⟩ : ∃ k, l.getD t (0, 0) = k := ⟨_, rfl⟩
      rw [hk] at c0 c1 hok htk
      obtain ⟨a, b⟩ := k
      simp only at c0 c1 hok htk
      have hwa : IntKind.i64.wrap a = a := wrap_i64 _ (by omega) (by omega)
      have hwa2 : wrap64 a = a := by unfold wrap64; omega
      have hlen : (zs ++ putL ((l.length : Int) :: keyN (l.take t))).length ≤ 274877906944 := by
        rw [List.length_append, putL_length]
        have := sizeL_le ((l.length : Int) :: keyN (l.take t))
        rw [List.length_cons, keyN_length, List.length_take] at this
        omega
      have hal : Below wr.heap.size wr (wr.alloc (.cells #[.int .i64 a, .int .i64 b] 2)).drew := ((Below.refl _ _).alloc (Nat.le_refl _) _).drew
      have hsz : sizeL [a, b] ≤ 18 := sizeL_le [a, b]
      obtain ⟨aB, cB, rfl⟩ := own_shape ho
      have HC := hide (refn_any _ _ _ [a, b] _ ((sees_of_own ho).2.below hal) ((sees_lit wr [a, b] (by simp)).below (Below.refl _ _).drew) (by simp) (i64_of fun x hx => by simp at hx; rcases hx with rfl | rfl <;> omega) (by omega))
      simp only [List.length_cons, List.length_nil, Nat.reduceAdd] at HC
      have HW2 : Hid (Below w.heap.size w (wr.alloc (.cells #[.int .i64 a, .int .i64 b] 2)).drew) := hb.trans (hal.mono hb.size)
      have HCX : Hid (∀ w' : World, Below wr.heap.size (wr.alloc (.cells #[.int .i64 a, .int .i64 b] 2)).drew w' → w'.cell? ⟨gb, ob + t * 2, none⟩ = some (.int .i32 a) ∧ w'.cell? ⟨gb, ob + t * 2 + 1, none⟩ = some (.int .i64 b)) := fun w' h => ⟨((hal.trans h).cell (p := ⟨gb, ob + t * 2, none⟩) (World.block_lt_of_cell? _ _ c0)).trans c0, ((hal.trans h).cell (p := ⟨gb, ob + t * 2 + 1, none⟩) (World.block_lt_of_cell? _ _ c1)).trans c1⟩
      obtain ⟨nB, hnB⟩ : ∃ n, (zs ++ putL ((l.length : Int) :: keyN (l.take t))).length = n := ⟨_, rfl⟩
      rw [hnB] at HC ⊢
      have HTK := hide htk
      clear hcl hao hk hok htk ho hb hal hlen hnB
      go_wp2_with fail
      refine wp_region_held_drew (S := fun x => x.cell? ⟨gb, ob + t * 2, none⟩ = some (.int .i32 a) ∧ x.cell? ⟨gb, ob + t * 2 + 1, none⟩ = some (.int .i64 b)) (by kernel_rfl) ⟨c0, c1⟩ (fun hHeld => ?_)
      refine wpAnyH_take (i := 0) (v := ?v1x0) rfl (by kernel_rfl) (by kernel_rfl) (by kernel_rfl) (fun _ _ _ h => h) (Or.inl ⟨by rfl, ?hy1x0⟩) (by assumption) ?rest1x0
      case hy1x0 => intro w hSw; obtain ⟨g0, g1⟩ := hSw; go_simp <;> with_reducible rfl
      simp only [Act.put, List.getElem_toArray, List.getElem_cons_zero, List.setIfInBounds_toArray, List.set_cons_zero, List.set_cons_succ]
      refine wpAnyH_take (i := 1) (v := ?v2x1) rfl (by kernel_rfl) (by kernel_rfl) (by kernel_rfl) (fun _ _ _ h => h) (Or.inl ⟨by rfl, ?hy2x1⟩) (by assumption) ?rest2x1
      case hy2x1 => intro w hSw; obtain ⟨g0, g1⟩ := hSw; go_simp <;> with_reducible rfl
      simp only [Act.put, List.getElem_toArray, List.getElem_cons_zero, List.getElem_cons_succ, List.setIfInBounds_toArray, List.set_cons_zero, List.set_cons_succ]
      refine wpAnyH_take (i := 2) (v := ?v3x2) rfl (by kernel_rfl) (by kernel_rfl) (by kernel_rfl) (fun _ _ _ h => h) (Or.inl ⟨by rfl, ?hy3x2⟩) (by assumption) ?rest3x2
      case hy3x2 => intro w hSw; obtain ⟨g0, g1⟩ := hSw; go_simp <;> with_reducible rfl
      simp only [Act.put, List.getElem_toArray, List.getElem_cons_zero, List.getElem_cons_succ, List.setIfInBounds_toArray, List.set_cons_zero, List.set_cons_succ]
      refine wpAnyH_take (i := 3) (v := ?v4x3) rfl (by kernel_rfl) (by kernel_rfl) (by kernel_rfl) (fun _ _ _ h => h) (Or.inl ⟨by rfl, ?hy4x3⟩) (by assumption) ?rest4x3
      case hy4x3 => intro w hSw; obtain ⟨g0, g1⟩ := hSw; go_simp <;> with_reducible rfl
      simp only [Act.put, List.getElem_toArray, List.getElem_cons_zero, List.getElem_cons_succ, List.setIfInBounds_toArray, List.set_cons_zero, List.set_cons_succ]
      refine wpAnyH_take (i := 4) (v := ?v5x4) rfl (by kernel_rfl) (by kernel_rfl) (by kernel_rfl) (fun _ _ _ h => h) (Or.inl ⟨by rfl, ?hy5x4⟩) (by assumption) ?rest5x4
      case hy5x4 => intro w hSw; obtain ⟨g0, g1⟩ := hSw; go_simp <;> with_reducible rfl
      simp only [Act.put, List.getElem_toArray, List.getElem_cons_zero, List.getElem_cons_succ, List.setIfInBounds_toArray, List.set_cons_zero, List.set_cons_succ]
      refine wpAnyH_take (i := 5) (v := (.int .i32 a)) rfl (by kernel_rfl) (by kernel_rfl) (by kernel_rfl) (fun _ _ _ h => h) (Or.inl ⟨by rfl, ?hy6x5⟩) (by assumption) ?rest6x5
      case hy6x5 => intro w hSw; obtain ⟨g0, g1⟩ := hSw; go_simp <;> with_reducible rfl
      simp only [Act.put, List.getElem_toArray, List.getElem_cons_zero, List.getElem_cons_succ, List.setIfInBounds_toArray, List.set_cons_zero, List.set_cons_succ]
      refine wpAnyH_take (i := 6) (v := (.int .i64 a)) rfl (by kernel_rfl) (by kernel_rfl) (by kernel_rfl) (fun _ _ _ h => h) (Or.inl ⟨by rfl, ?hy7x6⟩) (by assumption) ?rest7x6
      case hy7x6 => intro w hSw; obtain ⟨g0, g1⟩ := hSw; go_simp <;> with_reducible rfl
      simp only [Act.put, List.getElem_toArray, List.getElem_cons_zero, List.getElem_cons_succ, List.setIfInBounds_toArray, List.set_cons_zero, List.set_cons_succ]
      refine wpAnyH_take (i := 7) (v := ?v8x7) rfl (by kernel_rfl) (by kernel_rfl) (by kernel_rfl) (fun _ _ _ h => h) (Or.inl ⟨by rfl, ?hy8x7⟩) (by assumption) ?rest8x7
      case hy8x7 => intro w hSw; obtain ⟨g0, g1⟩ := hSw; go_simp <;> with_reducible rfl
      simp only [Act.put, List.getElem_toArray, List.getElem_cons_zero, List.getElem_cons_succ, List.setIfInBounds_toArray, List.set_cons_zero, List.set_cons_succ]
      refine wpAnyH_take (i := 8) (v := ?v9x8) rfl (by kernel_rfl) (by kernel_rfl) (by kernel_rfl) (fun _ _ _ h => h) (Or.inl ⟨by rfl, ?hy9x8⟩) (by assumption) ?rest9x8
      case hy9x8 => intro w hSw; obtain ⟨g0, g1⟩ := hSw; go_simp <;> with_reducible rfl
      simp only [Act.put, List.getElem_toArray, List.getElem_cons_zero, List.getElem_cons_succ, List.setIfInBounds_toArray, List.set_cons_zero, List.set_cons_succ]
      refine wpAnyH_take (i := 9) (v := ?v10x9) rfl (by kernel_rfl) (by kernel_rfl) (by kernel_rfl) (fun _ _ _ h => h) (Or.inl ⟨by rfl, ?hy10x9⟩) (by assumption) ?rest10x9
      case hy10x9 => intro w hSw; obtain ⟨g0, g1⟩ := hSw; go_simp <;> with_reducible rfl
      simp only [Act.put, List.getElem_toArray, List.getElem_cons_zero, List.getElem_cons_succ, List.setIfInBounds_toArray, List.set_cons_zero, List.set_cons_succ]
      refine wpAnyH_take (i := 10) (v := ?v11x10) rfl (by kernel_rfl) (by kernel_rfl) (by kernel_rfl) (fun _ _ _ h => h) (Or.inl ⟨by rfl, ?hy11x10⟩) (by assumption) ?rest11x10
      case hy11x10 => intro w hSw; obtain ⟨g0, g1⟩ := hSw; go_simp <;> with_reducible rfl
      simp only [Act.put, List.getElem_toArray, List.getElem_cons_zero, List.getElem_cons_succ, List.setIfInBounds_toArray, List.set_cons_zero, List.set_cons_succ]
      refine wpAnyH_take (i := 11) (v := (.int .i64 b)) rfl (by kernel_rfl) (by kernel_rfl) (by kernel_rfl) (fun _ _ _ h => h) (Or.inl ⟨by rfl, ?hy12x11⟩) (by assumption) ?rest12x11
      case hy12x11 => intro w hSw; obtain ⟨g0, g1⟩ := hSw; go_simp <;> with_reducible rfl
      simp only [Act.put, List.getElem_toArray, List.getElem_cons_zero, List.getElem_cons_succ, List.setIfInBounds_toArray, List.set_cons_zero, List.set_cons_succ]
      refine wpAnyH_ready (rs := [12]) (by kernel_rfl) (by simp) ?_
      refine AllReadyH.cons rfl (fun K hK => ?_) AllReadyH.nil
      go_simp
      refine hK _ _ (unhide HCX _ (Below.refl _ _)) ?_
      clear hK hHeld
      intro hHeld
      refine wpAnyH_ready (rs := [13]) (by kernel_rfl) (by simp) ?_
      refine AllReadyH.cons rfl (fun K hK => ?_) AllReadyH.nil
      go_simp
      refine (unhide HC).mono ?_
      rintro e wq ⟨v3, rfl, ho3, hb3⟩
      refine hK _ _ (unhide HCX _ (hb3.mono (by simp))) ?_
      clear hK hHeld
      intro hHeld
      refine wpAnyH_take (i := 14) (v := ?v13x14) rfl (by kernel_rfl) (by kernel_rfl) (by kernel_rfl) (fun _ _ _ h => h) (Or.inl ⟨by rfl, ?hy13x14⟩) (by assumption) ?rest13x14
      case hy13x14 => intro w hSw; obtain ⟨g0, g1⟩ := hSw; go_simp <;> with_reducible rfl
      simp only [Act.put, List.getElem_toArray, List.getElem_cons_zero, List.getElem_cons_succ, List.setIfInBounds_toArray, List.set_cons_zero]
      refine wpAnyH_done (by kernel_rfl) ?_ _
      have HR3 : Hid (wq.ownsRow w.heap.size 5 1 v3 (zs ++ putL ((l.length : Int) :: keyN (l.take (t + 1)))).length (ints .u8 (zs ++ putL ((l.length : Int) :: keyN (l.take (t + 1))))) ∧ Below w.heap.size w wq) := by
        refine ⟨?_, (unhide HW2).trans (hb3.mono (unhide HW2).size)⟩
        rw [unhide HTK]
        rw [List.append_assoc, ← putL_append] at ho3
        exact own_mono ho3 (unhide HW2).size
      clear ho3 hb3 HC
      go_wp2
      go_roundw
      case rel => exact ⟨t + 1, by omega, by go_num, (unhide HR3).1, (unhide HR3).2⟩
      case measure => simp [intOf]; omega
    · have HE : Hid (wr.ownsRow w.heap.size 5 1 u0 (zs ++ putL ((l.length : Int) :: keyN l)).length (ints .u8 (zs ++ putL ((l.length : Int) :: keyN l))) ∧ Below w.heap.size w wr) := by
        rw [List.take_of_length_le (by omega)] at ho
        exact ⟨ho, hb⟩
      clear ho hb
      go_wp2
      go_ret
      exact ⟨_, rfl, unhide HE⟩
end Go.Proofs.Ytggllgimlfchhaa
