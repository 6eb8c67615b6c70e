/- Order: the document's. -/
import Derived.Test.YtibjhjkeflbghaaR4
namespace Go.Proofs.Ytibjhjkeflbghaa
open Go.RowKit
set_option maxRecDepth 100000

/-- A pair of places. -/
abbrev Pp := Int × Int
def qC (x : Pp) : List Value := [.int .i64 x.1, .int .i64 x.2]
theorem qC_len (x : Pp) : (qC x).length = 2 := rfl
theorem qC_one (x : Pp) : ∀ u ∈ qC x, u.oneCell' = true := by
  intro u hu
  simp only [qC, List.mem_cons, List.not_mem_nil, or_false] at hu
  rcases hu with rfl | rfl <;> rfl
theorem Try.info75 : (Try.prog.info? 75).map (fun i => (i.zero, i.size, i.bytes)) = some (some (.agg #[.int .i64 0, .int .i64 0]), 2, 16) := by kernel_rfl
theorem append_pps {w : World} {base : Nat} {v v2 : Value} {n : Nat} {l l2 : List Pp} (ty : TypeId) (hown : w.ownsRow base 75 2 v n (l.flatMap qC)) (hs : SeesL qC 2 w v2 l2) (hl : n + l2.length ≤ 4398046511104) (hbase : base ≤ w.heap.size) :
    ∃ v' w', (Builtin.append_ #[47, 47] ty #[v, v2]).run Try.prog w = .ok v' w' ∧ w'.ownsRow base 75 2 v' (n + l2.length) ((l ++ l2).flatMap qC) ∧ w.grownBy w' v.ownBlock := by
  obtain ⟨i, hi, hz, hs1, hb⟩ := info_parts Try.info75
  rw [List.flatMap_append]
  exact run_append_L qC_len qC_one base 47 ty 75 i _ 16 Try.underlying47 hi hz hs1 hb rfl (by decide) hown hs (by unfold maxLen; omega) (by omega) hbase
theorem sees_oneP (w : World) (k : Pp) : SeesL qC 2 (w.alloc (.cells #[.int .i64 k.1, .int .i64 k.2] 75)) (.slice (some ⟨w.heap.size, 0, none⟩) 1 1) [k] := by
  refine ⟨_, 1, w.heap.size, 0, rfl, by simp, by simp, (fun h => by cases h), fun _ => rfl, fun t x hx j hj => ?_⟩
  obtain ⟨ht, rfl⟩ := List.getElem?_eq_some_iff.1 hx
  obtain rfl : t = 0 := by simpa using ht
  rw [cell_at (heap_alloc_new w _)]
  rcases (by omega : j = 0 ∨ j = 1) with rfl | rfl <;> rfl
def cl (L : List Tx) (i k : Nat) : Bool := clashP (lkX (L.getD i default)) (lkX (L.getD k default))
/-- Those ahead of a place, up to one, that stand in its way. -/
def ordI (L : List Tx) (k : Nat) : Nat → List Pp
  | 0 => []
  | i + 1 => ordI L k i ++ if cl L i k = true then [((i : Int), (k : Int))] else []
/-- All pairs of the places below one. -/
def ordP (L : List Tx) : Nat → List Pp
  | 0 => []
  | k + 1 => ordP L k ++ ordI L k k
theorem ordI_len (L : List Tx) (k : Nat) : ∀ i, (ordI L k i).length ≤ i
  | 0 => Nat.le_refl _
  | i + 1 => by
    have := ordI_len L k i
    unfold ordI
    rw [List.length_append]
    split <;> simp only [List.length_cons, List.length_nil] <;> omega
theorem ordP_len (L : List Tx) : ∀ k, k ≤ 40 → (ordP L k).length ≤ 40 * k
  | 0, _ => Nat.le_refl _
  | k + 1, h => by
    have := ordP_len L k (by omega)
    have := ordI_len L k k
    unfold ordP
    rw [List.length_append]
    omega

set_option maxHeartbeats 6400000 in
theorem rorder_any {v : Value} {L : List Tx} {w : World} (hs : SeesL xC 6 w v L) (hx : ∀ x ∈ L, SeesX w x) (hsh : ∀ x ∈ L, Short x) (hl : L.length ≤ 40) :
    Calls Try.prog 22 #[v] w fun e w' => ∃ a c, e = .returned (.slice a (ordP L L.length).length c) ∧ SeesL qC 2 w' (.slice a (ordP L L.length).length c) (ordP L L.length) ∧ Below w.heap.size w w' := by
  obtain ⟨ao, cap, hv⟩ := hs.shape
  obtain ⟨m, hm⟩ : ∃ m, L.length = m := ⟨_, rfl⟩
  rw [hm] at hv hl
  subst hv
  have HST : Hid (∀ z, Below w.heap.size w z → SeesL xC 6 z (.slice ao m cap) L) := fun z hz => hs.below xC_len hz
  have HXZ : Hid (∀ z, Below w.heap.size w z → ∀ i, i < m → SeesX z (L.getD i default) ∧ Short (L.getD i default)) := fun z hz i hi => by
    rw [getD_at' (show i < L.length by omega)]
    exact ⟨(hx _ (List.getElem_mem _)).below hz, hsh _ (List.getElem_mem _)⟩
  have HLL := hide hm
  clear hs hx hsh
  go_enter Try.func22, Try.ntmps22
  go_wp2
  go_loopw [4, 3] (fun c o wr => ∃ t : Nat, t ≤ m ∧ c = .int .i64 t ∧ wr.ownsRow w.heap.size 75 2 o (ordP L t).length ((ordP L t).flatMap qC) ∧ Below w.heap.size w wr) (fun c _ _ => m - (intOf c).toNat)
  case atStart => exact ⟨0, by omega, rfl, own_nil _ _ _ _, Below.refl _ _⟩
  case round =>
    obtain ⟨t, ht, rfl, hor, hbr⟩ := hrel
    by_cases hlt : t < m
    · have hll := unhide HLL
      obtain ⟨gb, ob, hao, hj1⟩ := tx_cells (unhide HST wr hbr) rfl (show t < L.length by omega)
      clear hj1
      subst hao
      have HBR := hide (And.intro hor hbr)
      have hlt0 : (t : Int) < (m : Int) := by omega
      have hltN : t < L.length := by omega
      have hpl := ordP_len L t (by omega)
      clear hll hor hbr
      go_wp2
      go_loopw [5, 3] (fun c o wr => ∃ i : Nat, i ≤ t ∧ c = .int .i64 i ∧ wr.ownsRow w.heap.size 75 2 o (ordP L t ++ ordI L t i).length ((ordP L t ++ ordI L t i).flatMap qC) ∧ Below w.heap.size w wr) (fun c _ _ => t - (intOf c).toNat)
      case atStart => exact ⟨0, by omega, rfl, by have := (unhide HBR).1; simpa [ordI] using this, (unhide HBR).2⟩
      case round =>
        obtain ⟨i, hi, rfl, hoi, hbi⟩ := hrel
        obtain ⟨oa, oc, eo⟩ := own_shape hoi
        have hil := ordI_len L t i
        obtain ⟨on, hon⟩ : ∃ z, (ordP L t ++ ordI L t i).length = z := ⟨_, rfl⟩
        have hle : on ≤ 2000 := by rw [← hon, List.length_append]; omega
        rw [hon] at eo
        subst eo
        by_cases hli : i < t
        · obtain ⟨c, hc⟩ : ∃ c, cl L i t = c := ⟨_, rfl⟩
          have hsx := (unhide HXZ) wr hbi
          have hiN : i < L.length := by omega
          have him : i < m := by omega
          have HS0 : ∀ z, Below wr.heap.size wr z → SeesL xC 6 z (.slice (some ⟨gb, ob, none⟩) m cap) L := fun z hz => ((unhide HST) wr hbi).below xC_len hz
          obtain ⟨sy, ry, ac1, nc1, cc1, aa1, na1, ca1, ar1, nr1, cr1, aw1, nw1, cw1, hxi, hci⟩ := tx_lit HS0 hiN (hsx i him).1
          obtain ⟨sx, rx, ac0, nc0, cc0, aa0, na0, ca0, ar0, nr0, cr0, aw0, nw0, cw0, hxt, hct⟩ := tx_lit HS0 hltN (hsx t hlt).1
          have HC : Hid (∀ z, Below wr.heap.size wr z → Calls Try.prog 29 #[.agg #[.int .i64 sy, .int .i64 ry, .slice ac1 nc1 cc1, .slice aa1 na1 ca1, .slice ar1 nr1 cr1, .slice aw1 nw1 cw1], .agg #[.int .i64 sx, .int .i64 rx, .slice ac0 nc0 cc0, .slice aa0 na0 ca0, .slice ar0 nr0 cr0, .slice aw0 nw0 cw0]] z fun e w' => e = .returned (.bool c) ∧ Below z.heap.size z w') := fun z hz => by
            have h := rclash_any ((hsx i him).1.below hz) ((hsx t hlt).1.below hz) (hsx i him).2 (hsx t hlt).2
            rw [hxi, hxt, show clashP (lkX (L.getD i default)) (lkX (L.getD t default)) = c from hc] at h
            exact h
          have HOR := hide (And.intro hoi hbi)
          have HCI := hide hci
          have HCT := hide hct
          have HCC := hide hc
          have HON := hide hon
          have hli0 : (i : Int) < (t : Int) := by omega
          have hli1 : (i : Int) < (m : Int) := by omega
          clear hxi hxt hci hct hc hsx HS0 hoi hbi hon
          go_wp2
          have t0 : Below wr.heap.size wr wr.drew := (Below.refl _ _).drew
          refine wp_region_held_drew (S := fun x => Below wr.heap.size wr x) (by kernel_rfl) t0 (fun hHeld => ?_)
          refine wpAnyH_take (i := 0) (v := ?v1x0) rfl (by as_aux_lemma => kernel_rfl) (by as_aux_lemma => kernel_rfl) (by as_aux_lemma => kernel_rfl) (fun _ _ _ h => h) (Or.inl ⟨by rfl, ?hy1x0⟩) (by assumption) ?rest1x0
          case hy1x0 => intro w hSw; go_simp <;> with_reducible rfl
          simp only [Act.put, List.getElem_toArray, List.getElem_cons_zero, List.setIfInBounds_toArray, List.set_cons_zero, List.set_cons_succ]
          refine wpAnyH_take (i := 1) (v := ?v2x1) rfl (by as_aux_lemma => kernel_rfl) (by as_aux_lemma => kernel_rfl) (by as_aux_lemma => kernel_rfl) (fun _ _ _ h => h) (Or.inl ⟨by rfl, ?hy2x1⟩) (by assumption) ?rest2x1
          case hy2x1 => intro w hSw; go_simp <;> with_reducible rfl
          simp only [Act.put, List.getElem_toArray, List.getElem_cons_zero, List.getElem_cons_succ, List.setIfInBounds_toArray, List.set_cons_zero, List.set_cons_succ]
          refine wpAnyH_take (i := 2) (v := ?v3x2) rfl (by as_aux_lemma => kernel_rfl) (by as_aux_lemma => kernel_rfl) (by as_aux_lemma => kernel_rfl) (fun _ _ _ h => h) (Or.inl ⟨by rfl, ?hy3x2⟩) (by assumption) ?rest3x2
          case hy3x2 => intro w hSw; go_simp <;> with_reducible rfl
          simp only [Act.put, List.getElem_toArray, List.getElem_cons_zero, List.getElem_cons_succ, List.setIfInBounds_toArray, List.set_cons_zero, List.set_cons_succ]
          refine wpAnyH_take (i := 3) (v := (.agg #[.int .i64 sy, .int .i64 ry, .slice ac1 nc1 cc1, .slice aa1 na1 ca1, .slice ar1 nr1 cr1, .slice aw1 nw1 cw1])) rfl (by as_aux_lemma => kernel_rfl) (by as_aux_lemma => kernel_rfl) (by as_aux_lemma => kernel_rfl) (fun _ _ _ h => h) (Or.inl ⟨by rfl, ?hy4x3⟩) (by assumption) ?rest4x3
          case hy4x3 => intro w hSw; obtain ⟨q0, q1, q2, q3, q4, q5⟩ := (unhide HCI) _ hSw; go_simp <;> with_reducible rfl
          simp only [Act.put, List.getElem_toArray, List.getElem_cons_zero, List.getElem_cons_succ, List.setIfInBounds_toArray, List.set_cons_zero, List.set_cons_succ]
          refine wpAnyH_take (i := 4) (v := ?v5x4) rfl (by as_aux_lemma => kernel_rfl) (by as_aux_lemma => kernel_rfl) (by as_aux_lemma => kernel_rfl) (fun _ _ _ h => h) (Or.inl ⟨by rfl, ?hy5x4⟩) (by assumption) ?rest5x4
          case hy5x4 => intro w hSw; go_simp <;> with_reducible rfl
          simp only [Act.put, List.getElem_toArray, List.getElem_cons_zero, List.getElem_cons_succ, List.setIfInBounds_toArray, List.set_cons_zero, List.set_cons_succ]
          refine wpAnyH_take (i := 5) (v := ?v6x5) rfl (by as_aux_lemma => kernel_rfl) (by as_aux_lemma => kernel_rfl) (by as_aux_lemma => kernel_rfl) (fun _ _ _ h => h) (Or.inl ⟨by rfl, ?hy6x5⟩) (by assumption) ?rest6x5
          case hy6x5 => intro w hSw; go_simp <;> with_reducible rfl
          simp only [Act.put, List.getElem_toArray, List.getElem_cons_zero, List.getElem_cons_succ, List.setIfInBounds_toArray, List.set_cons_zero, List.set_cons_succ]
          refine wpAnyH_take (i := 6) (v := ?v7x6) rfl (by as_aux_lemma => kernel_rfl) (by as_aux_lemma => kernel_rfl) (by as_aux_lemma => kernel_rfl) (fun _ _ _ h => h) (Or.inl ⟨by rfl, ?hy7x6⟩) (by assumption) ?rest7x6
          case hy7x6 => intro w hSw; go_simp <;> with_reducible rfl
          simp only [Act.put, List.getElem_toArray, List.getElem_cons_zero, List.getElem_cons_succ, List.setIfInBounds_toArray, List.set_cons_zero, List.set_cons_succ]
          refine wpAnyH_take (i := 7) (v := (.agg #[.int .i64 sx, .int .i64 rx, .slice ac0 nc0 cc0, .slice aa0 na0 ca0, .slice ar0 nr0 cr0, .slice aw0 nw0 cw0])) rfl (by as_aux_lemma => kernel_rfl) (by as_aux_lemma => kernel_rfl) (by as_aux_lemma => kernel_rfl) (fun _ _ _ h => h) (Or.inl ⟨by rfl, ?hy8x7⟩) (by assumption) ?rest8x7
          case hy8x7 => intro w hSw; obtain ⟨q0, q1, q2, q3, q4, q5⟩ := (unhide HCT) _ hSw; go_simp <;> with_reducible rfl
          simp only [Act.put, List.getElem_toArray, List.getElem_cons_zero, List.getElem_cons_succ, List.setIfInBounds_toArray, List.set_cons_zero, List.set_cons_succ]
          refine wpAnyH_ready (rs := [8]) (by as_aux_lemma => kernel_rfl) (by simp) ?_
          refine AllReadyH.cons rfl (fun K hK => ?_) AllReadyH.nil
          go_simp
          refine ((unhide HC) _ t0).mono ?_
          rintro e w3 ⟨rfl, hb3⟩
          refine hK _ _ (t0.trans (hb3.mono t0.size)) ?_
          clear hK hHeld
          have t3 : Below wr.heap.size wr w3 := t0.trans (hb3.mono t0.size)
          intro hHeld
          refine wpAnyH_done (by as_aux_lemma => kernel_rfl) ?_ _
          clear hHeld
          have ho3 := own_below (unhide HOR).1 t3
          have hb4 : Below w.heap.size w w3 := (unhide HOR).2.trans (t3.mono (unhide HOR).2.size)
          cases c with
          | true =>
            obtain ⟨Z, hZ⟩ : ∃ z, w3.alloc (.cells #[.int .i64 (i : Int), .int .i64 (t : Int)] 75) = z := ⟨_, rfl⟩
            have bZ : Below w3.heap.size w3 Z := hZ ▸ below_box _
            have hsz : SeesL qC 2 Z (.slice (some ⟨w3.heap.size, 0, none⟩) 1 1) [((i : Int), (t : Int))] := hZ ▸ sees_oneP w3 _
            have hbz : Below w.heap.size w Z := hb4.trans (bZ.mono hb4.size)
            obtain ⟨v', y5, r5, o5, g5⟩ := append_pps 47 (own_below ho3 bZ) hsz (by rw [unhide HON]; simp only [List.length_cons, List.length_nil]; omega) hbz.size
            have hb5 : Below w.heap.size w y5 := hbz.trans ((Below.refl _ _).grown g5 hbz.size (own_block_le ho3))
            have hsp : ordP L t ++ ordI L t (i + 1) = (ordP L t ++ ordI L t i) ++ [((i : Int), (t : Int))] := by
              show ordP L t ++ (ordI L t i ++ if cl L i t = true then [((i : Int), (t : Int))] else []) = _
              rw [if_pos (unhide HCC), List.append_assoc]
            have HG : Hid (y5.ownsRow w.heap.size 75 2 v' (ordP L t ++ ordI L t (i + 1)).length ((ordP L t ++ ordI L t (i + 1)).flatMap qC) ∧ Below w.heap.size w y5) := ⟨by rw [hsp, List.length_append]; exact o5, hb5⟩
            have HR5 := hide r5
            have HZ := hide hZ
            clear ho3 hb4 bZ hsz hbz o5 g5 hb5 hsp r5 hZ
            go_wp2_with (first | rw [unhide HZ] | (at_builtin; refine wpList_append_run rfl _ _ 47 47 rfl rfl rfl (unhide HR5) ?_))
            go_roundw
            case rel => exact ⟨i + 1, by omega, by go_num, (unhide HG).1, (unhide HG).2⟩
            case measure => simp [intOf]; omega
          | false =>
            have hsp : ordP L t ++ ordI L t (i + 1) = ordP L t ++ ordI L t i := by
              show ordP L t ++ (ordI L t i ++ if cl L i t = true then [((i : Int), (t : Int))] else []) = _
              rw [if_neg (by rw [unhide HCC]; decide), List.append_nil]
            have HG : Hid (w3.ownsRow w.heap.size 75 2 (.slice oa on oc) (ordP L t ++ ordI L t (i + 1)).length ((ordP L t ++ ordI L t (i + 1)).flatMap qC) ∧ Below w.heap.size w w3) := ⟨by rw [hsp]; exact ho3, hb4⟩
            clear ho3 hb4 hsp
            go_wp2
            go_roundw
            case rel => exact ⟨i + 1, by omega, by go_num, (unhide HG).1, (unhide HG).2⟩
            case measure => simp [intOf]; omega
        · obtain rfl : i = t := by omega
          have HG : Hid (wr.ownsRow w.heap.size 75 2 (.slice oa on oc) (ordP L (i + 1)).length ((ordP L (i + 1)).flatMap qC) ∧ Below w.heap.size w wr) := ⟨hoi, hbi⟩
          clear hoi hbi hon
          go_wp2
          go_roundw
          case rel => exact ⟨i + 1, by omega, by go_num, (unhide HG).1, (unhide HG).2⟩
          case measure => simp [intOf]; omega
    · obtain rfl : t = m := by omega
      obtain ⟨oa, oc, eo⟩ := own_shape hor
      have hsee := (own_sees qC_len (by decide) hor).2
      obtain ⟨on, hon⟩ : ∃ z, (ordP L t).length = z := ⟨_, rfl⟩
      rw [hon] at eo
      subst eo
      have HF := hide (And.intro hsee hbr)
      have HON := hide hon
      clear hor hbr hsee hon
      go_wp2
      go_ret
      exact ⟨oa, oc, by rw [unhide HLL, unhide HON]; rfl, by rw [unhide HLL, unhide HON]; exact (unhide HF).1, (unhide HF).2⟩
end Go.Proofs.Ytibjhjkeflbghaa
