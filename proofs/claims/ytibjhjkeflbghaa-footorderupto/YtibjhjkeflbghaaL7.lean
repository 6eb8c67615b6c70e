/- Levels' walk. -/
import Derived.Test.YtibjhjkeflbghaaKF
namespace Go.Proofs.Ytibjhjkeflbghaa
open Go.RowKit
set_option maxRecDepth 100000

theorem But.trans {mb : Nat} {a b c : World} (h : But mb a b) (k : But mb b c) : But mb a c :=
  ⟨k.os.trans h.os, k.tape.trans h.tape, k.output.trans h.output, Nat.le_trans h.size k.size, fun j hj hm => (k.block j (Nat.lt_of_lt_of_le hj h.size) hm).trans (h.block j hj hm)⟩
theorem own_but {mb : Nat} {w y : World} {f : Ky → Option Value} (hm : MapS w mb f) (h1 : But mb w y) {base e size n : Nat} {v : Value} {xs : List Value} (h : w.ownsRow base e size v n xs) : y.ownsRow base e size v n xs := by
  refine ⟨h.1, ?_⟩
  rcases h.2 with hn | ⟨g, cap, cur, hv, hg, hh, r⟩
  · exact .inl hn
  · exact .inr ⟨g, cap, cur, hv, hg, (h1.block g (Array.getElem?_eq_some_iff.1 hh).1 (hm.apart hh)).trans hh, r⟩
theorem MapL.set {w : World} {mb : Nat} {g : Lst} (h : MapL w mb g) : ∃ f, MapS w mb f := by
  obtain ⟨f, h1, _⟩ := h
  exact ⟨f, h1⟩
theorem tx_cells {y : World} {v : Value} {l : List Tx} (hs : SeesL xC 6 y v l) {ao : Option Addr} {n cap : Nat} (hv : v = .slice ao n cap) {t : Nat} (ht : t < l.length) : ∃ gb ob, ao = some ⟨gb, ob, none⟩ ∧ y.cell? ⟨gb, ob + t * 6, none⟩ = some (.int .i64 (l.getD t default).s) ∧ y.cell? ⟨gb, ob + t * 6 + 1, none⟩ = some (.int .i64 (l.getD t default).r) ∧ y.cell? ⟨gb, ob + t * 6 + 2, none⟩ = some (l.getD t default).cv ∧ y.cell? ⟨gb, ob + t * 6 + 3, none⟩ = some (l.getD t default).av ∧ y.cell? ⟨gb, ob + t * 6 + 4, none⟩ = some (l.getD t default).rv ∧ y.cell? ⟨gb, ob + t * 6 + 5, none⟩ = some (l.getD t default).wv := by
  obtain ⟨ao', cap', gb, ob, hv', hao, hcl⟩ := SeesL.at hs
  rw [hv] at hv'
  simp only [Value.slice.injEq] at hv'
  obtain ⟨rfl, rfl, rfl⟩ := hv'
  exact ⟨gb, ob, hao (by omega), hcl t ht 0 (by omega), hcl t ht 1 (by omega), hcl t ht 2 (by omega), hcl t ht 3 (by omega), hcl t ht 4 (by omega), hcl t ht 5 (by omega)⟩

theorem lv_app {Y wr w2 w3 : World} {mb t : Nat} {av : Option Addr} {cv : Nat} {oo : List Int} {gg g' : Lst} {lv : Int} (hor : wr.ownsRow Y.heap.size 3 1 (.slice av t cv) t (oo.flatMap nC)) (hb : But mb Y wr) (hb2 : Below wr.heap.size wr w2) (hm2 : MapL w2 mb gg) (hb3 : But mb w2 w3) (hm3 : MapL w3 mb g') (hmb : mb < Y.heap.size) (ht : t ≤ 1099511627776) :
    ∃ a5 k5 y5, (Builtin.append_ #[30, 30] 30 #[.slice av t cv, .slice (some ⟨w3.heap.size, 0, none⟩) 1 1]).run Try.prog (w3.alloc (.cells #[.int .i64 lv] 3)) = .ok (.slice a5 (t + 1) k5) y5 ∧ y5.ownsRow Y.heap.size 3 1 (.slice a5 (t + 1) k5) (t + 1) ((oo ++ [lv]).flatMap nC) ∧ MapL y5 mb g' ∧ But mb Y y5 := by
  obtain ⟨f, hf⟩ := hm2.set
  have h3 := own_but hf hb3 (own_below hor hb2)
  have h4 := own_below h3 (below_box (w := w3) (.cells #[.int .i64 lv] 3))
  have hB : But mb Y w3 := (hb.below' hb2).trans hb3
  have hB4 : But mb Y (w3.alloc (.cells #[.int .i64 lv] 3)) := hB.below' (below_box _)
  obtain ⟨v', y5, r5, o5, g5⟩ := append_ints 30 h4 (sees_oneN w3 lv) (by simp only [List.length_cons, List.length_nil]; omega) hB4.size
  obtain ⟨a5, k5, e5⟩ := own_shape o5
  simp only [List.length_cons, List.length_nil] at e5 o5
  subst e5
  have hg : Below Y.heap.size (w3.alloc (.cells #[.int .i64 lv] 3)) y5 := (Below.refl _ _).grown g5 hB4.size (own_block_le h4)
  refine ⟨a5, k5, y5, r5, o5, (hm3.below (below_box _)).keep (hg.block mb hmb), ⟨hg.os.trans hB4.os, hg.tape.trans hB4.tape, hg.output.trans hB4.output, Nat.le_trans hB4.size hg.size, fun j hj hm => (hg.block j hj).trans (hB4.block j hj hm)⟩⟩

set_option maxHeartbeats 1600000 in
theorem levels_any {v : Value} {l : List Tx} {w : World} (hs : SeesL xC 6 w v l) (hx : ∀ x ∈ l, SeesX w x) (hsh : ∀ x ∈ l, Short x) (hl : l.length ≤ 1099511627776) :
    Calls Try.prog 26 #[v] w fun e w' => ∃ r, e = .returned r ∧ w'.ownsRow w.heap.size 3 1 r l.length ((levelsP l).flatMap nC) ∧ Below w.heap.size w w' := by
  obtain ⟨Y, hY⟩ : ∃ y, w.alloc (.map #[] 0) = y := ⟨_, rfl⟩
  have bY : Below w.heap.size w Y := hY ▸ below_box _
  have mY : MapL Y w.heap.size (fun _ => (0, 0)) := hY ▸ ⟨_, MapS.start w, fun _ => rfl⟩
  have hmk : (Instr.makeMap 82 none).run Try.prog w = .ok (.map (some w.heap.size)) Y := by rw [← hY]; rfl
  obtain ⟨mb, hmb⟩ : ∃ m, w.heap.size = m := ⟨_, rfl⟩
  obtain ⟨f0, hf0⟩ := mY.set
  have HS : Hid (∀ z, But mb Y z → SeesL xC 6 z v l) := fun z hb => (hs.below xC_len bY).keep xC_len ((hmb ▸ hb : But w.heap.size Y z).cell hf0)
  have HX : Hid (∀ z, But mb Y z → ∀ x ∈ l, SeesX z x) := fun z hb x hxl => ((hx x hxl).below bY).keep ((hmb ▸ hb : But w.heap.size Y z).cell hf0)
  rw [hmb] at hmk mY
  have HMB := hide hmb
  have HSH := hide hsh
  have HMY := hide mY
  have HMBL : Hid (mb < Y.heap.size) := by obtain ⟨_, h⟩ := mY.set; exact h.lt
  have HBY := hide bY
  obtain ⟨ao, cap, hv⟩ := hs.shape
  obtain ⟨n, hn⟩ : ∃ n, l.length = n := ⟨_, rfl⟩
  rw [hn] at hv hl
  have HN := hide hn
  rw [hn]
  subst hv
  clear hs hx hsh hn bY mY hY hmb hf0
  go_enter Try.func26, Try.ntmps26
  go_wp2
  go_loopw [3, 12] (fun o c wr => ∃ t : Nat, t ≤ n ∧ c = .int .i64 t ∧ wr.ownsRow Y.heap.size 3 1 o t ((runP (l.take t)).2.flatMap nC) ∧ MapL wr mb (runP (l.take t)).1 ∧ But mb Y wr) (fun _ c _ => n - (intOf c).toNat)
  case atStart => exact ⟨0, by omega, rfl, own_nil _ _ _ _, unhide HMY, But.refl _ _⟩
  case round =>
    obtain ⟨t, ht, rfl, hor, hml, hbr⟩ := hrel
    have HB := hide hbr
    have HOR := hide hor
    obtain ⟨av1, cv1, hov⟩ := own_shape hor
    by_cases hlt : t < n
    · have hnl := unhide HN
      have htl : t < l.length := by omega
      obtain ⟨gb, ob, hao, g0, g1, g2, g3, g4, g5⟩ := tx_cells (unhide HS wr hbr) rfl htl
      subst hao
      obtain ⟨x, hx⟩ : ∃ k, l.getD t default = k := ⟨_, rfl⟩
      have hx' : l[t] = x := by rw [← hx]; simp [List.getD, htl]
      rw [hx] at g0 g1 g2 g3 g4 g5
      have hsx : SeesX wr x := hx' ▸ unhide HX wr hbr _ (List.getElem_mem htl)
      have hshx : Short x := hx' ▸ unhide HSH _ (List.getElem_mem htl)
      obtain ⟨⟨gg, oo⟩, hgo⟩ : ∃ p, runP (l.take t) = p := ⟨_, rfl⟩
      have hlen : oo.length = t := by have := runP_len (l.take t); rw [hgo] at this; simpa [Nat.min_eq_left (Nat.le_of_lt htl)] using this
      have hlo : Lo t gg := by have := runP_lo (l.take t); rw [hgo] at this; simpa [Nat.min_eq_left (Nat.le_of_lt htl)] using this
      have hlv := levelP_le hlo (by omega) (lkX x)
      have htk : runP (l.take (t + 1)) = (raiseP gg (levelP gg (lkX x) + 1) (lkX x), oo ++ [levelP gg (lkX x)]) := by rw [List.take_succ_eq_append_getElem htl, hx', runP_snoc, hgo]; rfl
      rw [hgo] at hml hor
      simp only at hml hor
      have HTK := hide htk
      obtain ⟨L, hL⟩ : ∃ L, lkX x = L := ⟨_, rfl⟩
      have hLl : L.length ≤ 4398046511104 := hL ▸ lkX_len hshx
      have hLo : ∀ y ∈ L, OkK y.1 := hL ▸ lkX_ok hsx
      obtain ⟨lv, hlve⟩ : ∃ z, levelP gg L = z := ⟨_, rfl⟩
      rw [hL, hlve] at hlv
      rw [hL] at HTK
      rw [hlve] at HTK
      obtain ⟨y1, hy1⟩ : ∃ y, wr.alloc (.cells #[.int .i64 x.s, .int .i64 x.r, x.cv, x.av, x.rv, x.wv] 26) = y := ⟨_, rfl⟩
      have b1 : Below wr.heap.size wr y1 := hy1 ▸ below_box _
      have x1 : y1.heap[wr.heap.size]? = some (.cells #[.int .i64 x.s, .int .i64 x.r, x.cv, x.av, x.rv, x.wv] 26) := by rw [← hy1]; exact heap_alloc_new wr _
      have d0 : y1.cell? ⟨wr.heap.size, 0, none⟩ = some (.int .i64 x.s) := cell_at x1
      have d1 : y1.cell? ⟨wr.heap.size, 1, none⟩ = some (.int .i64 x.r) := cell_at x1
      have d2 : y1.cell? ⟨wr.heap.size, 2, none⟩ = some x.cv := cell_at x1
      have d3 : y1.cell? ⟨wr.heap.size, 3, none⟩ = some x.av := cell_at x1
      have d4 : y1.cell? ⟨wr.heap.size, 4, none⟩ = some x.rv := cell_at x1
      have d5 : y1.cell? ⟨wr.heap.size, 5, none⟩ = some x.wv := cell_at x1
      have HLK := hide (lkX_any (hsx.below b1) hshx)
      obtain ⟨kl, hkl⟩ : ∃ m, L.length = m := ⟨_, rfl⟩
      rw [hL, hkl] at HLK
      unfold xV at HLK
      have HM1 : Hid (∀ z, Below y1.heap.size y1 z → MapL z mb gg) := fun z hz => (hml.below b1).below hz
      have HKL := hide hkl
      have HKLe : Hid (kl ≤ 4398046511104) := hkl ▸ hLl
      have HLO := hide hLo
      have HLV := hide hlve
      have HB1 := hide b1
      have hw : wrap64 (lv + 1) = lv + 1 := by unfold wrap64; omega
      have HLEN := hide hlen
      obtain ⟨sx, hsx1⟩ : ∃ z, x.s = z := ⟨_, rfl⟩
      obtain ⟨rx, hrx1⟩ : ∃ z, x.r = z := ⟨_, rfl⟩
      obtain ⟨⟨ac, nc, cc, hc⟩, ⟨aa, na, ca, ha⟩⟩ := And.intro hsx.shc hsx.sha
      obtain ⟨ar, cr, hr⟩ := hsx.rs.shape
      obtain ⟨aw, cw, hw5⟩ := hsx.ws.shape
      obtain ⟨nr, hnr⟩ : ∃ z, x.rs.length = z := ⟨_, rfl⟩
      obtain ⟨nw, hnw⟩ : ∃ z, x.ws.length = z := ⟨_, rfl⟩
      rw [hnr] at hr
      rw [hnw] at hw5
      rw [hsx1] at g0 hy1 d0 HLK
      rw [hrx1] at g1 hy1 d1 HLK
      rw [hc] at g2 hy1 d2 HLK
      rw [ha] at g3 hy1 d3 HLK
      rw [hr] at g4 hy1 d4 HLK
      rw [hw5] at g5 hy1 d5 HLK
      have HOR' := hide hor
      have HHB := hide hbr
      subst hov
      have HY1 := hide hy1
      clear hy1 hnl hx hx' htl hsx hshx hgo hlen hlo hLl hLo hL hlve htk hkl b1 x1 hml hor hbr hsx1 hrx1 hc ha hr hw5 hnr hnw HOR
      go_wp2_with (first | rw [unhide HY1] | (go_at_call 14; refine (unhide HLK).mono ?_; rintro e w1 ⟨v1, rfl, ho1, hb1⟩; have HO1 := hide ho1; have HB2 := hide hb1; obtain ⟨a1, k1, e1⟩ := own_shape ho1; subst e1; clear ho1 hb1 HLK) | (go_at_call 48; fail))
      have hsL := (own_sees lC_len (by decide) (unhide HO1)).2
      have h48 := levelOf_any hsL (unhide HLO) (unhide HM1 w1 (unhide HB2)) (by rw [unhide HKL]; exact unhide HKLe)
      rw [unhide HLV] at h48
      have H48 := hide h48
      clear hsL h48
      go_wp2_with (go_at_call 48; refine (unhide H48).mono ?_; rintro e w2 ⟨rfl, hb2⟩; have HB3 := hide hb2; clear hb2 H48)
      have hB12 : Below y1.heap.size y1 w2 := (unhide HB2).trans ((unhide HB3).mono (unhide HB2).size)
      have h49 := raise_any (lv + 1) ((own_sees lC_len (by decide) (unhide HO1)).2.below lC_len (unhide HB3)) (unhide HLO) (unhide HM1 w2 hB12) (by rw [unhide HKL]; exact unhide HKLe)
      have H49 := hide h49
      have hBw2 : Below wr.heap.size wr w2 := (unhide HB1).trans (hB12.mono (unhide HB1).size)
      have HBW2 := hide hBw2
      have HM2 := hide (unhide HM1 w2 hB12)
      clear h49 hB12 hBw2
      go_wp2_with (first | (go_at_call 49; refine (unhide H49).mono ?_; rintro e w3 ⟨rfl, hm3, hb3⟩; obtain ⟨a5, k5, y5, r5, o5, m5, b5⟩ := lv_app (lv := lv) (unhide HOR') (unhide HHB) (unhide HBW2) (unhide HM2) hb3 hm3 (unhide HMBL) (by omega); have HR5 := hide r5; have HF := hide (And.intro o5 (And.intro m5 b5)); clear hm3 hb3 H49 r5 o5 m5 b5) | (at_builtin; refine wpList_append_run rfl _ _ 30 30 rfl rfl rfl (unhide HR5) ?_))
      go_roundw
      case rel => exact ⟨t + 1, by omega, by go_num, by rw [unhide HTK]; exact (unhide HF).1, by rw [unhide HTK]; exact (unhide HF).2.1, (unhide HF).2.2⟩
      case measure => simp [intOf]; omega
    · obtain rfl : t = n := by omega
      have hnl := unhide HN
      rw [List.take_of_length_le (by omega)] at hor
      have hf : wr.ownsRow w.heap.size 3 1 (.slice av1 t cv1) t ((levelsP l).flatMap nC) ∧ Below w.heap.size w wr := by
        refine ⟨?_, (unhide HBY).trans (hbr.low (Nat.le_of_eq (unhide HMB)) (unhide HBY).size)⟩
        rw [← hov]
        exact own_mono hor (unhide HBY).size
      have HF := hide hf
      subst hov
      clear hnl hor hbr hml hf
      go_wp2
      go_ret
      exact ⟨_, rfl, (unhide HF).1, (unhide HF).2⟩
end Go.Proofs.Ytibjhjkeflbghaa
