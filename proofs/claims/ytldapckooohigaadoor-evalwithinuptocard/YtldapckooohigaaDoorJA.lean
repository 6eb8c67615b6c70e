/- Several texts as one. -/
import Derived.Test.YtldapckooohigaaDoorJX

/- readAll, up to the targets. -/
namespace Go.Proofs.YtldapckooohigaaDoor
open Go.RowKit Go.Shelf
set_option maxRecDepth 100000

/-- One new instruction's slice. -/
theorem sees_oneI (w : World) (x : Ins) : SeesL iC 5 (w.alloc (.cells #[.int .i64 x.ad, .int .i64 x.op, .int .i64 x.a, .int .i64 x.b, .int .i64 x.im] 89)) (.slice (some ⟨w.heap.size, 0, none⟩) 1 1) [x] := by
  refine ⟨_, 1, w.heap.size, 0, rfl, by simp, by simp, (fun h => by cases h), fun _ => rfl, fun t y hy j hj => ?_⟩
  obtain ⟨ht, rfl⟩ := List.getElem?_eq_some_iff.1 hy
  obtain rfl : t = 0 := by simpa using ht
  rw [cell_at (heap_alloc_new w _)]
  rcases (by omega : j = 0 ∨ j = 1 ∨ j = 2 ∨ j = 3 ∨ j = 4) with rfl | rfl | rfl | rfl | rfl <;> rfl
/-- An instruction that is seen. -/
theorem SeesL.ins {w : World} {v : Value} {l : List Ins} (h : SeesL iC 5 w v l) : ∃ ao cap gb ob, v = .slice ao l.length cap ∧ l.length ≤ cap ∧ (0 < l.length → ao = some ⟨gb, ob, none⟩) ∧ ∀ t x, l[t]? = some x → w.cell? ⟨gb, ob + t * 5, none⟩ = some (.int .i64 x.ad) ∧ w.cell? ⟨gb, ob + t * 5 + 1, none⟩ = some (.int .i64 x.op) ∧ w.cell? ⟨gb, ob + t * 5 + 2, none⟩ = some (.int .i64 x.a) ∧ w.cell? ⟨gb, ob + t * 5 + 3, none⟩ = some (.int .i64 x.b) ∧ w.cell? ⟨gb, ob + t * 5 + 4, none⟩ = some (.int .i64 x.im) := by
  obtain ⟨ao, cap, gb, ob, h1, h2, h3, h4, h5, h6⟩ := h
  refine ⟨ao, cap, gb, ob, h1, h2, h5, fun t x ht => ⟨h6 t x ht 0 (by omega), h6 t x ht 1 (by omega), h6 t x ht 2 (by omega), h6 t x ht 3 (by omega), h6 t x ht 4 (by omega)⟩⟩
/-- Where readAll stands at the address p. -/
structure RA (w : World) (l : List Int) (wr : World) (v : Value) (p : Nat) (L : List Ins) : Prop where
  bel : Below w.heap.size w wr
  own : wr.ownsRow (w.heap.size + 1) 89 5 v L.length (L.flatMap iC)
  bg : wr.heap[w.heap.size]? = some (.cells (bgA L) 118)
  rl : Rl l p L
theorem RA.start (w : World) (l : List Int) : RA w l (w.alloc (.cells Tryd.zeroCells118 118)) (.slice none 0 0) 0 [] :=
  ⟨below_box _, own_nil _ _ _ _, by rw [bgA_zero]; exact heap_alloc_new w _, Rl.start l⟩
theorem RA.grew {w wr w1 : World} {l : List Int} {v : Value} {p : Nat} {L : List Ins} (h : RA w l wr v p L) (hb : Below wr.heap.size wr w1) : RA w l w1 v p L :=
  ⟨h.bel.trans (hb.mono h.bel.size), own_below h.own hb, (hb.block _ (Array.getElem?_eq_some_iff.1 h.bg).1).trans h.bg, h.rl⟩
/-- Behind an instruction that was read. -/
theorem RA.step {w wr w1 : World} {l : List Int} {v : Value} {p : Nat} {L : List Ins} (h : RA w l wr v p L) (h0 : oneE l p = 0) (hl : l.length ≤ 512) (hb : Below wr.heap.size wr w1) :
    ∃ g cap w2, (Builtin.append_ #[78, 78] 78 #[v, .slice (some ⟨w1.heap.size, 0, none⟩) 1 1]).run Tryd.prog (w1.alloc (.cells #[.int .i64 (rd l p).ad, .int .i64 (rd l p).op, .int .i64 (rd l p).a, .int .i64 (rd l p).b, .int .i64 (rd l p).im] 89)) = .ok (.slice (some ⟨g, 0, none⟩) (L.length + 1) cap) w2 ∧ w2.cell? ⟨w.heap.size, p, none⟩ = some (.bool (bgB L p)) ∧ w2.frozen? ⟨w.heap.size, p, none⟩ = false ∧
      RA w l (w2.setCell ⟨w.heap.size, p, none⟩ (.bool true)) (.slice (some ⟨g, 0, none⟩) (L.length + 1) cap) (p + sA l p) (L ++ [rd l p]) ∧
      ((w2.setCell ⟨w.heap.size, p, none⟩ (.bool true)).cell? ⟨g, L.length * 5, none⟩ = some (.int .i64 (rd l p).ad) ∧ (w2.setCell ⟨w.heap.size, p, none⟩ (.bool true)).cell? ⟨g, L.length * 5 + 1, none⟩ = some (.int .i64 (rd l p).op) ∧ (w2.setCell ⟨w.heap.size, p, none⟩ (.bool true)).cell? ⟨g, L.length * 5 + 2, none⟩ = some (.int .i64 (rd l p).a) ∧ (w2.setCell ⟨w.heap.size, p, none⟩ (.bool true)).cell? ⟨g, L.length * 5 + 3, none⟩ = some (.int .i64 (rd l p).b) ∧ (w2.setCell ⟨w.heap.size, p, none⟩ (.bool true)).cell? ⟨g, L.length * 5 + 4, none⟩ = some (.int .i64 (rd l p).im)) := by
  have hs := sA_pos h0
  have hlen := h.rl.len
  have hbw : Below w.heap.size w w1 := h.bel.trans (hb.mono h.bel.size)
  have hwr : w.heap.size < wr.heap.size := (Array.getElem?_eq_some_iff.1 h.bg).1
  have hz : w.heap.size + 1 ≤ w1.heap.size := by have := hb.size; omega
  obtain ⟨ao, cap, w2, r, o, b⟩ := rtI.app (l := L) 78 ((own_below h.own hb).alloc (.cells #[.int .i64 (rd l p).ad, .int .i64 (rd l p).op, .int .i64 (rd l p).a, .int .i64 (rd l p).b, .int .i64 (rd l p).im] 89)) (sees_oneI w1 (rd l p)) (by simp; omega) (by simp; omega) (by simp; omega)
  have b2 : Below w.heap.size w w2 := (hbw.alloc (by omega) _).trans (b.mono (by omega))
  have g1 : w1.heap[w.heap.size]? = some (.cells (bgA L) 118) := (hb.block _ hwr).trans h.bg
  have g2 : w2.heap[w.heap.size]? = some (.cells (bgA L) 118) := (b.block _ (by omega)).trans (by rw [Below.heap_alloc _ _ _ (by omega)]; exact g1)
  have o2 := ownsRow_setCell_below o (a := ⟨w.heap.size, p, none⟩) (by simp) (.bool true)
  have o3 : (w2.setCell ⟨w.heap.size, p, none⟩ (.bool true)).ownsRow (w.heap.size + 1) 89 5 (.slice ao (L.length + 1) cap) (L ++ [rd l p]).length ((L ++ [rd l p]).flatMap iC) := by simpa using o2
  obtain ⟨g, rfl⟩ : ∃ g, ao = some ⟨g, 0, none⟩ := by
    rcases o.2 with ⟨_, hn⟩ | ⟨g, _, _, hv, _⟩
    · simp at hn
    · simp only [Value.slice.injEq] at hv
      exact ⟨g, hv.1⟩
  refine ⟨g, cap, w2, r, ?_, frozen_of_heap g2, ⟨b2.setCell (p := ⟨w.heap.size, p, none⟩) (Nat.le_refl _) _, o3, ?_, h.rl.step h0⟩, ?_⟩
  · rw [cell_at g2, bgA_get L p (by omega)]
  · rw [heap_setCell_same w2 _ p _ 118 _ g2, bgA_set L (rd l p) p rfl (by omega)]
  · obtain ⟨_, hse⟩ := own_sees iC_len (by decide) o3
    obtain ⟨ao', cap', gb, ob, hv, _, hao, hc⟩ := hse.ins
    simp only [Value.slice.injEq] at hv
    obtain ⟨rfl, _⟩ := hv
    have e := hao (by simp)
    simp only [Option.some.injEq, Addr.mk.injEq] at e
    obtain ⟨rfl, rfl, _⟩ := e
    have := hc L.length (rd l p) (by simp)
    simpa using this

/-- What readAll and Decode end with. -/
def DcR (w : World) (base : Nat) (D : List Ins × Int) (e : Ending) (w' : World) : Prop :=
  Below w.heap.size w w' ∧ (D.2 = 0 → ∃ x, e = .returned x ∧ w'.ownsRow base 89 5 x D.1.length (D.1.flatMap iC)) ∧ (D.2 ≠ 0 → e = GiveUp D.2)
theorem dec_no {l : List Int} (hm : l.length ≤ 512) (h : (wkR l 0).2 ≠ 0) : dec l = ([], (wkR l 0).2) := by unfold dec; rw [if_neg (by omega), if_pos h]
theorem dec_yes {l : List Int} {L : List Ins} (hm : l.length ≤ 512) (h : wkR l 0 = (L, 0)) (ha : ∀ u x, u < L.length → L[u]? = some x → tgt L x = true) : dec l = (L, 0) := by
  unfold dec
  rw [if_neg (by omega), h, if_neg (by simp), if_pos]
  refine List.all_eq_true.2 fun x hx => ?_
  obtain ⟨u, hu⟩ := List.getElem?_of_mem hx
  exact ha u x (List.getElem?_eq_some_iff.1 hu).1 hu
theorem dec_tgt {l : List Int} {L : List Ins} (hm : l.length ≤ 512) (h : wkR l 0 = (L, 0)) {u : Nat} {x : Ins} (hx : L[u]? = some x) (ha : tgt L x = false) : dec l = ([], 131) := by
  unfold dec
  rw [if_neg (by omega), h, if_neg (by simp), if_neg]
  intro hall
  have := List.all_eq_true.1 hall x (List.mem_of_getElem? hx)
  rw [ha] at this
  cases this
/-- What the second loop asks of an instruction. -/
theorem RA.elem {w wr : World} {l : List Int} {v : Value} {p : Nat} {L : List Ins} (h : RA w l wr v p L) {u : Nat} {x : Ins} (hx : L[u]? = some x) : ∃ g o, (∃ cap, v = .slice (some ⟨g, o, none⟩) L.length cap) ∧ wr.cell? ⟨g, o + u * 5, none⟩ = some (.int .i64 x.ad) ∧ wr.cell? ⟨g, o + u * 5 + 1, none⟩ = some (.int .i64 x.op) ∧ wr.cell? ⟨g, o + u * 5 + 2, none⟩ = some (.int .i64 x.a) ∧ wr.cell? ⟨g, o + u * 5 + 3, none⟩ = some (.int .i64 x.b) ∧ wr.cell? ⟨g, o + u * 5 + 4, none⟩ = some (.int .i64 x.im) := by
  obtain ⟨_, hse⟩ := own_sees iC_len (by decide) h.own
  obtain ⟨ao', cap', gb, ob, hv, _, hao, hc⟩ := hse.ins
  rw [hao (by have := (List.getElem?_eq_some_iff.1 hx).1; omega)] at hv
  exact ⟨gb, ob, ⟨cap', hv⟩, hc u x hx⟩
theorem RA.begins {w wr : World} {l : List Int} {v : Value} {p : Nat} {L : List Ins} (h : RA w l wr v p L) (i : Nat) (hi : i < 512) : wr.cell? ⟨w.heap.size, i, none⟩ = some (.bool (bgB L i)) := by
  rw [cell_at h.bg, bgA_get L i hi]
theorem RA.far {w wr : World} {l : List Int} {v : Value} {p : Nat} {L : List Ins} (h : RA w l wr v p L) (hm : l.length ≤ 512) {i : Int} (hi : 512 ≤ i) : bgB L i = false := by
  unfold bgB
  refine List.any_eq_false.2 fun x hx => ?_
  obtain ⟨q, hq, rfl, _⟩ := h.rl.mem x hx
  have := h.rl.hp
  have e : (rd l q).ad = q := rfl
  simp [e]
  omega
theorem RA.jump {w wr : World} {l : List Int} {v : Value} {p : Nat} {L : List Ins} (h : RA w l wr v p L) (hby : Byt l) {u : Nat} {x : Ins} (hx : L[u]? = some x) (hj : jmp x = true) : 0 ≤ x.im := by
  obtain ⟨q, _, rfl, _⟩ := h.rl.mem x (List.mem_of_getElem? hx)
  exact rd_im hby q hj

set_option maxHeartbeats 3200000 in
theorem readAll_any {w : World} {v : Value} {l : List Int} (hT : Tab w) (hs : SeesL yC 1 w v l) (hby : Byt l) (hm : l.length ≤ 512) :
    Calls Tryd.prog 54 #[v] w fun e w' => DcR w (w.heap.size + 1) (dec l) e w' := by
  have HT := hide hT
  have HS := hide hs
  obtain ⟨ao, cap, rfl⟩ := hs.shape
  have HRS := hide (RA.start w l)
  obtain ⟨n, hn⟩ : ∃ n, l.length = n := ⟨_, rfl⟩
  rw [hn] at HS hm ⊢
  have HN := hide hn
  have hm' : (n : Int) ≤ 512 := by omega
  have HM : Hid (l.length ≤ 512) := by rw [hn]; exact hm
  clear hT hs hn
  go_enter Tryd.func54, Tryd.ntmps54
  go_wp2_with (go_at_call 67; refine (must_ok _ _).mono ?_; rintro e w2 ⟨rfl, rfl⟩)
  go_loopw [3, 5] (fun x c wr => ∃ (p : Nat) (L : List Ins), c = .int .i64 p ∧ RA w l wr x p L) (fun _ c _ => n - (intOf c).toNat)
  case atStart => exact ⟨0, [], rfl, unhide HRS⟩
  case round =>
    obtain ⟨p, L, rfl, hR⟩ := hrel
    have HR := hide hR
    obtain ⟨ao3, cap3, hv3⟩ := own_shape hR.own
    rw [hv3] at HR ⊢
    have hpl := hR.rl.hp
    rw [unhide HN] at hpl
    by_cases hlt : p < n
    · have hl2 : (p : Int) < (n : Int) := by omega
      have hTr : Tab wr := (unhide HT).below hR.bel (unhide HT).pos
      have hrd := read_any (l := l) (p : Int) hTr ((unhide HS).below yC_len hR.bel) hby (by have := unhide HN; omega)
      by_cases he : oneE l p = 0
      · have HC := hide (hrd.mono fun e w' (h : Rds _ _ _ e w') => And.intro (h.2.1 he) h.1)
        clear hrd hR hv3
        rw [Int.toNat_natCast] at HC
        have HST := hide fun w1 (hb : Below wr.heap.size wr w1) => (unhide HR).step he (by rw [unhide HN]; exact hm) hb
        have hop := oneE_ok he
        have hsA := sA_pos he
        have HBH : Hid (∀ x, Tab x → Calls Tryd.prog 68 #[iW (rd l p)] x fun e w' => e = .returned (.int .i64 ((p : Int) + sz (l.getD p 0))) ∧ Grew x w') := fun x hx => behind_any _ _ _ _ _ x hx hop.2.1 hop.2.2.1 (by show (0 : Int) ≤ p; omega) (by show (p : Int) ≤ _; omega)
        rw [← hsA.2.2.2] at HBH
        obtain ⟨hs1, hs4, hsl, -⟩ := hsA
        rw [unhide HN] at hsl
        generalize sA l p = s at *
        have hkn : L.length ≤ 512 := by have := (unhide HR).rl.len; omega
        obtain ⟨k, hk⟩ : ∃ k, L.length = k := ⟨_, rfl⟩
        rw [hk] at HST HR hkn ⊢
        clear hop
        go_wp2_with (first
          | (go_at_call 69; refine (unhide HC).mono ?_; rintro e w1 ⟨rfl, hb1⟩; obtain ⟨g, c4, w2, hr, hcl, hfz, hRA, d0, d1, d2, d3, d4⟩ := unhide HST w1 hb1; have HRn := hide hr; have HRA := hide hRA; clear hr hRA hb1)
          | (refine wpList_append_wanted (by rfl) _ _ 78 rfl rfl rfl (unhide HRn) ?_)
          | (go_at_call 68; refine (unhide HBH _ ((unhide HT).below (unhide HRA).bel (unhide HT).pos)).mono ?_; rintro e z ⟨rfl, hg⟩))
        go_roundw
        case rel => exact ⟨p + s, L ++ [rd l p], by go_num, (unhide HRA).grew hg.below⟩
        case measure => simp [intOf]; omega
      · have HC := hide (hrd.mono fun e w' (h : Rds _ _ _ e w') => And.intro (h.2.2 he) h.1)
        have hst := hR.rl.stop (by rw [unhide HN]; exact hlt) he
        have hbw := hR.bel
        clear hrd hR hv3
        go_wp2_with fail
        refine (unhide HC).mono ?_
        rintro e w1 ⟨rfl, hb1⟩
        refine ⟨rfl, ?_⟩
        have hd := dec_no (unhide HM) (by rw [hst]; exact he)
        rw [hd, hst]
        exact ⟨hbw.trans (hb1.mono hbw.size), fun z => absurd z he, fun _ => rfl⟩
    · have hst := hR.rl.done (by rw [unhide HN]; omega)
      have HST := hide hst
      have hkn : L.length ≤ 512 := by have := hR.rl.len; omega
      obtain ⟨k, hk⟩ : ∃ k, L.length = k := ⟨_, rfl⟩
      rw [hk] at HR hkn hv3 ⊢
      have HK := hide hk
      have HV3 := hide hv3
      clear hst hR hk hv3
      go_wp2
      go_loopw [33] (fun c z => ∃ j : Nat, j ≤ k ∧ c = .int .i64 j ∧ (∀ u x, u < j → L[u]? = some x → tgt L x = true) ∧ Below wr.heap.size wr z) (fun c _ => k - (intOf c).toNat)
      case atStart => exact ⟨0, Nat.zero_le _, rfl, fun u x h => absurd h (by omega), Below.refl _ _⟩
      case round =>
        obtain ⟨j, hj, rfl, hall, hbz⟩ := hrel
        have hRz := (unhide HR).grew hbz
        have HA := hide hall
        have HB := hide hbz
        clear hall hbz
        by_cases hjl : j < k
        · obtain ⟨x, hx⟩ : ∃ x, L[j]? = some x := ⟨_, List.getElem?_eq_getElem (by rw [unhide HK]; exact hjl)⟩
          obtain ⟨g, o, ⟨cc, hcc⟩, d0, d1, d2, d3, d4⟩ := hRz.elem hx
          have hjl2 : (j : Int) < (k : Int) := by omega
          simp only [Value.slice.injEq] at hcc
          obtain ⟨rfl, -, -⟩ := hcc
          have hjm := hRz.jump hby hx
          have hfar := fun i h => hRz.far (unhide HM) (i := i) h
          have hbg := hRz.begins
          obtain ⟨xd, xo, xa, xb, xm⟩ := x
          dsimp only at d0 d1 d2 d3 d4 hjm
          have hzw : w.heap.size < wr.heap.size := (Array.getElem?_eq_some_iff.1 hRz.bg).1
          have HF : Hid (∀ z, Grew (wr.alloc (.cells #[.int .i64 xd, .int .i64 xo, .int .i64 xa, .int .i64 xb, .int .i64 xm] 89)) z → z.cell? ⟨wr.heap.size, 4, none⟩ = some (.int .i64 xm) ∧ (∀ i : Nat, i < 512 → z.cell? ⟨w.heap.size, i, none⟩ = some (.bool (bgB L i))) ∧ Below wr.heap.size wr z) := fun z hg => by
            have b1 : Below wr.heap.size wr z := (below_box _).trans (hg.below.mono (by simp))
            have h1 : z.heap[wr.heap.size]? = some (.cells #[.int .i64 xd, .int .i64 xo, .int .i64 xa, .int .i64 xb, .int .i64 xm] 89) := (hg.below.block _ (by simp)).trans (heap_alloc_new wr _)
            exact ⟨cell_at h1, fun i hi => (b1.cell (p := ⟨w.heap.size, i, none⟩) hzw).trans (hbg i hi), b1⟩
          have HX := hide hx
          have HZ := hide hRz
          clear hx hRz hbg
          by_cases hcj : jmp ⟨xd, xo, xa, xb, xm⟩ = true
          · have him := hjm hcj
            have HJ : Hid (∀ z, Calls Tryd.prog 70 #[iV xd xo xa xb xm] z fun e w' => e = .returned (.bool true) ∧ Grew z w') := fun z => by rw [← hcj]; exact jumps_any _ _ _ _ _ z
            have HTG : Hid (tgt L ⟨xd, xo, xa, xb, xm⟩ = bgB L xm) := by show (!jmp _ || _) = _; rw [hcj]; rfl
            clear hcj hjm
            by_cases hfx : xm < 512
            · have hbx : bgB L ((xm.toNat : Nat) : Int) = bgB L xm := by rw [Int.toNat_of_nonneg him]
              by_cases hbb : bgB L xm = true
              · have HFX : Hid (∀ z : World, (∀ i : Nat, i < 512 → z.cell? ⟨w.heap.size, i, none⟩ = some (.bool (bgB L i))) → z.cell? ⟨w.heap.size, xm.toNat, none⟩ = some (.bool true)) := fun z h => by rw [h xm.toNat (by omega), hbx, hbb]
                clear hbx
                rw [hbb] at HTG
                clear hbb hfar
                go_wp2_with (first
                  | (go_at_call 70; refine (unhide HJ _).mono ?_; rintro e z ⟨rfl, hg⟩; obtain ⟨q1, q2, q3⟩ := unhide HF z hg; have q4 := unhide HFX z q2; clear q2)
                  | (go_at_call_of 67 (Value.bool true); refine (must_ok _ _).mono ?_; rintro e z2 ⟨rfl, rfl⟩))
                go_roundw
                case rel =>
                  refine ⟨j + 1, by omega, by go_num, fun u x hu hx => ?_, (unhide HB).trans (q3.mono (unhide HB).size)⟩
                  by_cases huj : u = j
                  · subst huj
                    rw [unhide HX] at hx
                    obtain rfl := Option.some.inj hx
                    exact unhide HTG
                  · exact unhide HA u x (by omega) hx
                case measure => simp [intOf]; omega
              · have hbf : bgB L xm = false := by simpa using hbb
                have HFX : Hid (∀ z : World, (∀ i : Nat, i < 512 → z.cell? ⟨w.heap.size, i, none⟩ = some (.bool (bgB L i))) → z.cell? ⟨w.heap.size, xm.toNat, none⟩ = some (.bool false)) := fun z h => by rw [h xm.toNat (by omega), hbx, hbf]
                clear hbx
                rw [hbf] at HTG
                clear hbb hbf hfar
                go_wp2_with (first
                  | (go_at_call 70; refine (unhide HJ _).mono ?_; rintro e z ⟨rfl, hg⟩; obtain ⟨q1, q2, q3⟩ := unhide HF z hg; have q4 := unhide HFX z q2; clear q2))
                refine (must_no _ _).mono ?_
                rintro e z2 ⟨rfl, rfl⟩
                refine ⟨rfl, ?_⟩
                rw [dec_tgt (unhide HM) (unhide HST) (unhide HX) (unhide HTG)]
                have hbw := (unhide HZ).bel
                exact ⟨hbw.trans (q3.mono hbw.size), fun z => absurd z (by decide), fun _ => rfl⟩
            · have hfb := hfar xm (by omega)
              rw [hfb] at HTG
              have hd : decide (xm < 512) = false := by simpa using hfx
              clear hfb hfar
              go_wp2_with (first
                | (go_at_call 70; refine (unhide HJ _).mono ?_; rintro e z ⟨rfl, hg⟩; obtain ⟨q1, q2, q3⟩ := unhide HF z hg; clear q2))
              refine (must_no _ _).mono ?_
              rintro e z2 ⟨rfl, rfl⟩
              refine ⟨rfl, ?_⟩
              rw [dec_tgt (unhide HM) (unhide HST) (unhide HX) (unhide HTG)]
              have hbw := (unhide HZ).bel
              exact ⟨hbw.trans (q3.mono hbw.size), fun z => absurd z (by decide), fun _ => rfl⟩
          · have hcf : jmp ⟨xd, xo, xa, xb, xm⟩ = false := by simpa using hcj
            have HJ : Hid (∀ z, Calls Tryd.prog 70 #[iV xd xo xa xb xm] z fun e w' => e = .returned (.bool false) ∧ Grew z w') := fun z => by rw [← hcf]; exact jumps_any _ _ _ _ _ z
            have HTG : Hid (tgt L ⟨xd, xo, xa, xb, xm⟩ = true) := by show (!jmp _ || _) = _; rw [hcf]; rfl
            clear hcj hcf hjm hfar
            go_wp2_with (first
              | (go_at_call 70; refine (unhide HJ _).mono ?_; rintro e z ⟨rfl, hg⟩; obtain ⟨q1, q2, q3⟩ := unhide HF z hg; clear q2)
              | (go_at_call_of 67 (Value.bool true); refine (must_ok _ _).mono ?_; rintro e z2 ⟨rfl, rfl⟩))
            go_roundw
            case rel =>
              refine ⟨j + 1, by omega, by go_num, fun u x hu hx => ?_, (unhide HB).trans (q3.mono (unhide HB).size)⟩
              by_cases huj : u = j
              · subst huj
                rw [unhide HX] at hx
                obtain rfl := Option.some.inj hx
                exact unhide HTG
              · exact unhide HA u x (by omega) hx
            case measure => simp [intOf]; omega
        · have hd := dec_yes (unhide HM) (unhide HST) (fun u x hu hx => unhide HA u x (by rw [unhide HK] at hu; omega) hx)
          have HD := hide hd
          have HZ := hide hRz
          clear hd hRz
          go_wp2
          go_ret
          rw [unhide HD]
          refine ⟨(unhide HZ).bel, fun _ => ⟨_, rfl, ?_⟩, fun z => absurd rfl z⟩
          exact (unhide HZ).own
end Go.Proofs.YtldapckooohigaaDoor

/- Decode. -/
namespace Go.Proofs.YtldapckooohigaaDoor
open Go.RowKit Go.Shelf
set_option maxRecDepth 100000

set_option maxHeartbeats 400000 in
theorem readAll_long (ao : Option Addr) (n cap : Nat) (w : World) (h : 512 < n) : Calls Tryd.prog 54 #[.slice ao n cap] w fun e w' => e = GiveUp 3 ∧ w = w' := by
  have hd : decide ((n : Int) ≤ 512) = false := by simp; omega
  go_enter Tryd.func54, Tryd.ntmps54
  go_wp2_with fail
  refine (must_no _ _).mono ?_
  rintro e w2 ⟨rfl, rfl⟩
  exact ⟨rfl, rfl, rfl⟩
theorem dec_long {l : List Int} (h : 512 < l.length) : dec l = ([], 3) := by unfold dec; rw [if_pos h]
theorem dec_err {l : List Int} (h : (dec l).2 ≠ 0) : (dec l).1 = [] := by
  unfold dec at h ⊢
  split
  · rfl
  · rename_i h1
    rw [if_neg h1] at h
    split
    · rfl
    · rename_i h2
      rw [if_neg h2] at h
      split
      · rename_i h3
        rw [if_pos h3] at h
        exact absurd rfl h
      · rfl
theorem readAll_all {w : World} {v : Value} {l : List Int} (hT : Tab w) (hs : SeesL yC 1 w v l) (hby : Byt l) :
    Calls Tryd.prog 54 #[v] w fun e w' => DcR w (w.heap.size + 1) (dec l) e w' := by
  by_cases hm : l.length ≤ 512
  · exact readAll_any hT hs hby hm
  · obtain ⟨ao, cap, rfl⟩ := hs.shape
    rw [dec_long (by omega)]
    exact (readAll_long ao _ cap w (by omega)).mono fun e w' h => ⟨h.2 ▸ Below.refl _ _, fun z => absurd z (by decide), fun _ => h.1⟩
set_option maxHeartbeats 400000 in
theorem f35_any {w : World} {v : Value} {l : List Int} (b1 : Nat) (hT : Tab w) (hs : SeesL yC 1 w v l) (hby : Byt l) (k1 : w.cell? ⟨b1, 0, none⟩ = some v) :
    Calls Tryd.prog 53 #[.pointer (some ⟨b1, 0, none⟩)] w fun e w' => DcR w (w.heap.size + 1) (dec l) e w' := by
  have hr := readAll_all hT hs hby
  obtain ⟨ao, cap, rfl⟩ := hs.shape
  clear hs hT
  by_cases he : (dec l).2 = 0
  · have HR := hide (hr.mono fun e w' (h : DcR _ _ _ e w') => And.intro h.1 (h.2.1 he))
    generalize dec l = D at *
    clear hr
    generalize l.length = n at *
    have HE := hide he
    clear he
    go_enter Tryd.func53, Tryd.ntmps53
    go_wp2_with (go_at_call 54; refine (unhide HR).mono ?_; rintro e w1 ⟨hb, x, rfl, hx⟩)
    go_ret
    exact ⟨hb, fun _ => ⟨x, rfl, hx⟩, fun z => absurd (unhide HE) z⟩
  · have HR := hide (hr.mono fun e w' (h : DcR _ _ _ e w') => And.intro h.1 (h.2.2 he))
    generalize dec l = D at *
    clear hr
    generalize l.length = n at *
    have HE := hide he
    clear he
    go_enter Tryd.func53, Tryd.ntmps53
    go_wp2_with fail
    refine (unhide HR).mono ?_
    rintro e w1 ⟨hb, rfl⟩
    exact ⟨rfl, hb, fun z => absurd z (unhide HE), fun _ => rfl⟩
theorem enters35 : ∀ args w, (callFunc 53 args).run Tryd.prog w = .ok (.enter 53 args) w := enters_of Tryd.func53 (by kernel_rfl) rfl
theorem c34_any {w : World} {v : Value} {l : List Int} (hT : Tab w) (hs : SeesL yC 1 w v l) (hby : Byt l) :
    Calls Tryd.prog 52 #[.func (Fn.func 53) #[] #[.pointer (some ⟨w.heap.size, 0, none⟩)]] (w.alloc (.cells #[v] 31)) fun e w' => ∃ x, e = .returned (.tuple #[x, .int .i64 (dec l).2]) ∧ Below (w.heap.size + 1) (w.alloc (.cells #[v] 31)) w' ∧ w'.ownsRow (w.heap.size + 2) 89 5 x (dec l).1.length ((dec l).1.flatMap iC) := by
  have b0 : Below w.heap.size w (w.alloc (.cells #[v] 31)) := below_box _
  have k0 : (w.alloc (.cells #[v] 31)).heap[w.heap.size]? = some (.cells #[v] 31) := heap_alloc_new w _
  have s0 : (w.alloc (.cells #[v] 31)).heap.size = w.heap.size + 1 := by simp
  generalize w.alloc (.cells #[v] 31) = Y at *
  have bY : Below Y.heap.size Y (Y.alloc (.cells #[.int .i64 0] 59)) := below_box _
  have bw : Below w.heap.size w (Y.alloc (.cells #[.int .i64 0] 59)) := b0.trans (bY.mono (by omega))
  have h35 := f35_any w.heap.size (hT.below bw hT.pos) (hs.below yC_len bw) hby (cell_at ((bY.block _ (by omega)).trans k0))
  rw [World.size_alloc] at h35
  rw [← s0]
  by_cases he : (dec l).2 = 0
  · rw [he]
    refine (caught34_ok 53 _ Y (fun x w' => w'.ownsRow (Y.heap.size + 1) 89 5 x (dec l).1.length ((dec l).1.flatMap iC)) (fun _ _ _ h => ownsRow_setCell_below h (by simp) _) (fun _ _ _ h => h.alloc _) (h35.mono fun e w' h => ?_) enters35).mono fun e w' h => ?_
    · obtain ⟨x, hx, ho⟩ := h.2.1 he
      exact ⟨x, hx, by simpa using h.1, own_mono ho (by simp)⟩
    · obtain ⟨x, hx, hb, ho⟩ := h
      exact ⟨x, hx, hb, by rw [s0] at ho; exact ho⟩
  · rw [dec_err he]
    refine (caught34_no 53 _ _ Y (h35.mono fun e w' h => ⟨h.2.2 he, by simpa using h.1⟩) enters35).mono fun e w' h => ?_
    exact ⟨_, h.1, h.2, own_nil _ _ _ _⟩
set_option maxHeartbeats 400000 in
/-- Decode. -/
theorem decode_any {w : World} {v : Value} {l : List Int} (hT : Tab w) (hs : SeesL yC 1 w v l) (hby : Byt l) :
    Calls Tryd.prog 43 #[v] w fun e w' => ∃ x, e = .returned (.tuple #[x, .int .i64 (dec l).2]) ∧ Below w.heap.size w w' ∧ w'.ownsRow w.heap.size 89 5 x (dec l).1.length ((dec l).1.flatMap iC) := by
  have HC := hide (c34_any hT hs hby)
  have hmf : ∀ (fn : Fn) (first cap : Array Value) (w : World), (Instr.makeFunc fn first cap).run Tryd.prog w = .ok (.func fn first cap) w := fun _ _ _ _ => rfl
  obtain ⟨ao, cap, rfl⟩ := hs.shape
  clear hs hT
  generalize dec l = D at *
  generalize l.length = n at *
  go_enter Tryd.func43, Tryd.ntmps43
  go_wp2_with (go_at_call 52; refine (unhide HC).mono ?_; rintro e w1 ⟨x, rfl, hb, ho⟩)
  go_ret2
  exact ⟨x, rfl, (below_box _).trans (hb.mono (by omega)), own_mono ho (by omega)⟩
end Go.Proofs.YtldapckooohigaaDoor
