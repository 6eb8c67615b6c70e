/- Several texts as one. -/
import Derived.Test.YtggllgimlfchhaaGreatKN
import Derived.Deep.RegionHeld3

/- The document's own reader (package trivetref04): Keys. -/
namespace Go.Proofs.YtggllgimlfchhaaGreat
open Go.RowKit
set_option maxRecDepth 100000

theorem iter_len0 {α : Type} (take : RS → α × RS) (s : RS) (h : s.len.er ≠ 0) : s.list take = ([], s.len) := by
  unfold RS.list
  have := iter_stop (take := take) (k := 0) (s := s.len) h s.num.1.toNat
  rw [Nat.zero_add] at this
  rw [this]
  rfl
theorem len_val {s : RS} (h : s.len.er = 0) : lenV s.num.1 = s.num.1 := by
  unfold lenV; rw [if_pos (len_ok h)]
theorem len_bad {s : RS} (h : s.len.er ≠ 0) : lenV s.num.1 = 0 := by
  unfold lenV
  split
  · rename_i c
    have e : s.num.2.er ≠ 0 := fun g => h (by unfold RS.len; rw [decide_eq_true c, must_true]; exact g)
    exact num_bad e
  · rfl
/-- The document's list, by its own length. -/
theorem list_lenV {α : Type} (take : RS → α × RS) (s : RS) : s.list take = RS.iter take (lenV s.num.1).toNat s.len := by
  by_cases h : s.len.er = 0
  · rw [len_val h]; rfl
  · rw [iter_len0 take s h, len_bad h]; rfl

set_option maxHeartbeats 1600000 in
theorem keys_d {w : World} {R lo : Nat} {z0 : List Int} {s : RS} (h : Dr w R lo z0 s) :
    Calls Tryz.prog 139 #[.pointer (some ⟨R, 0, none⟩)] w fun e w' => ∃ x, e = .returned x ∧ w'.ownsRow w.heap.size 90 2 x (s.list RS.dkey).1.length (keyCs (s.list RS.dkey).1) ∧ Dr w' R lo z0 (s.list RS.dkey).2 ∧ But R w w' := by
  obtain ⟨i0, hi, hz0, hz1, hz2⟩ := info_parts Tryz.info90
  have HN := hide (len_d h)
  have HRl := hide h.rlt
  rw [list_lenV]
  obtain ⟨m, hm, hm4⟩ := lenV_nat s.num.1
  rw [hm] at HN ⊢
  rw [Int.toNat_natCast]
  obtain ⟨s2, hs2⟩ : ∃ s2, s.len = s2 := ⟨_, rfl⟩
  rw [hs2] at HN ⊢
  clear h hm hs2
  go_enter Tryz.func139, Tryz.ntmps139
  go_wp2_with fail
  refine (unhide HN).mono ?_
  rintro e w2 ⟨rfl, h1, h2⟩
  have HR2 := hide h1
  have HB2 := hide h2
  clear h1 h2 HN
  go_wp2
  go_loopw [4, 5] (fun v c wr => ∃ i : Nat, i ≤ m ∧ c = .int .i64 i ∧ wr.ownsRow w.heap.size 90 2 v (RS.iter RS.dkey i s2).1.length (keyCs (RS.iter RS.dkey i s2).1) ∧ Dr wr R lo z0 (RS.iter RS.dkey i s2).2 ∧ But R w wr) (fun _ c _ => m - (intOf c).toNat)
  case atStart => exact ⟨0, by omega, rfl, World.ownsRow_nil _ _ _ _, unhide HR2, unhide HB2⟩
  case round =>
    obtain ⟨i, him, rfl, ho, hr, hb⟩ := hrel
    obtain ⟨ao, ca, rfl⟩ := own_shapeN ho
    have g1 := hr.ce
    have hil := iter_len RS.dkey s2 i
    by_cases hlt : i < m
    · by_cases he : (RS.iter RS.dkey i s2).2.er = 0
      · rw [he] at g1
        have hst := iter_step he
        have HST := hide hst
        have HO := hide ho
        have HRr := hide hr
        have HB := hide hb
        have HT := hide (num_d hr)
        clear ho hr hb hst he
        generalize RS.iter RS.dkey i s2 = it at *
        obtain ⟨L, sI⟩ := it
        simp only at HST HO HRr HT hil g1 ⊢
        obtain ⟨n, hn⟩ : ∃ n, sI.num.1 = n := ⟨_, rfl⟩
        rw [hn] at HT
        have HN1 := hide hn
        go_wp2_with fail
        refine (unhide HT).mono ?_
        rintro e w3 ⟨rfl, q1, q2⟩
        have hrl := unhide HRl
        have HO3 := hide (own_keepR (unhide HO) q2 hrl)
        have HR3 := hide q1
        have HB3 := hide ((unhide HB).trans q2)
        have hcu := q1.cu
        have hfr := q1.fr
        clear q1 q2 HT HO HRr HB
        by_cases c1 : n < -2147483648
        · skip
          have hfit : (if w32 n = n then n else 0) = 0 := if_neg (fun e => by unfold w32 wrap32 at e; omega)
          have HRF : Hid (Dr (w3.setCell ⟨R, 3, none⟩ (.bool true)) R lo z0 sI.fit32.2) := by
            have e : sI.fit32.2 = ⟨sI.num.2.zs, sI.num.2.er, true⟩ := by unfold RS.fit32; rw [unhide HN1, if_neg (fun e => by unfold w32 wrap32 at e; omega)]
            rw [e]; exact (unhide HR3).odd
          have HOF := hide (own_setR (unhide HO3) hrl 3 (.bool true))
          have HBF := hide ((unhide HB3).set 3 (.bool true))
          clear HR3 HO3 HB3
          generalize hF2 : sI.fit32.2 = sF at *
          have HT2 := hide (num_d (unhide HRF))
          obtain ⟨r, hr⟩ : ∃ r, sF.num.1 = r := ⟨_, rfl⟩
          rw [hr] at HT2
          go_wp2_with fail
          refine (unhide HT2).mono ?_
          rintro e w4 ⟨rfl, q1, q2⟩
          have ho4 := own_keepR (unhide HOF) q2 hrl
          have hal : Below w4.heap.size w4 (w4.alloc (.cells #[.int .i32 0, .int .i64 r] 90)) := (Below.refl _ _).alloc (Nat.le_refl _) _
          have HO4 := hide (own_below ho4 hal)
          have HR4 := hide (q1.below hal)
          have HB4 := hide (((unhide HBF).trans q2).trans (But.of hal))
          have HSZ4 : Hid (w.heap.size ≤ (w4.alloc (.cells #[.int .i32 0, .int .i64 r] 90)).heap.size) := (unhide HB4).size
          have hky : sI.dkey = ((0, r), sF.num.2) := by unfold RS.dkey; rw [hF2, hr, unhide HN1, hfit]
          have HKY := hide hky
          clear q1 q2 ho4 hal HT2 HOF HBF HRF hky
          go_wp2_with (at_builtin; refine wpList_append_own _ rfl _ _ 22 rfl w.heap.size 90 i0 (.agg #[.int .i32 0, .int .i64 0]) 2 16 Tryz.underlying22 hi hz0 hz1 hz2 rfl (by decide) _ _ _ rfl (unhide HO4) ⟨w4.heap.size, 0, none⟩ 1 1 [.int .i32 0, .int .i64 r] rfl rfl ?d0 ?d1 ?d2 ?d3 ?d4 ?_)
          case d0 =>
            intro j u hu
            have hj : j < 2 := by have := (List.getElem?_eq_some_iff.1 hu).1; simpa using this
            have hadd : (⟨w4.heap.size, 0, none⟩ : Addr).add j = ⟨w4.heap.size, j, none⟩ := by unfold Addr.add; split <;> simp_all
            rw [hadd, World.cell?_alloc_new]
            simpa using hu
          case d1 => intro u hu; simp at hu; rcases hu with rfl | rfl <;> rfl
          case d2 => unfold maxLen; omega
          case d3 => omega
          case d4 => exact unhide HSZ4
          intro v' w5 ho5 hg5 _
          obtain ⟨ao', ca', rfl⟩ := own_shapeN ho5
          have HFN : Hid (w5.ownsRow w.heap.size 90 2 (.slice ao' (L.length + 1) ca') (RS.iter RS.dkey (i + 1) s2).1.length (keyCs (RS.iter RS.dkey (i + 1) s2).1) ∧ Dr w5 R lo z0 (RS.iter RS.dkey (i + 1) s2).2 ∧ But R w w5) := by
            rw [unhide HST, unhide HKY]
            refine ⟨?_, (unhide HR4).grown (unhide HO4) hrl hg5, (unhide HB4).grown (unhide HO4) (Nat.le_refl _) hg5⟩
            rw [List.length_append, keyCs_append]
            exact ho5
          clear ho5 hg5
          go_wp2
          go_roundw
          case rel => exact ⟨i + 1, by omega, by go_num, (unhide HFN).1, (unhide HFN).2.1, (unhide HFN).2.2⟩
          case measure => simp [intOf]; omega
        · by_cases c2 : 2147483647 < n
          · skip
            have hfit : (if w32 n = n then n else 0) = 0 := if_neg (fun e => by unfold w32 wrap32 at e; omega)
            have HRF : Hid (Dr (w3.setCell ⟨R, 3, none⟩ (.bool true)) R lo z0 sI.fit32.2) := by
              have e : sI.fit32.2 = ⟨sI.num.2.zs, sI.num.2.er, true⟩ := by unfold RS.fit32; rw [unhide HN1, if_neg (fun e => by unfold w32 wrap32 at e; omega)]
              rw [e]; exact (unhide HR3).odd
            have HOF := hide (own_setR (unhide HO3) hrl 3 (.bool true))
            have HBF := hide ((unhide HB3).set 3 (.bool true))
            clear HR3 HO3 HB3
            generalize hF2 : sI.fit32.2 = sF at *
            have HT2 := hide (num_d (unhide HRF))
            obtain ⟨r, hr⟩ : ∃ r, sF.num.1 = r := ⟨_, rfl⟩
            rw [hr] at HT2
            go_wp2_with fail
            refine (unhide HT2).mono ?_
            rintro e w4 ⟨rfl, q1, q2⟩
            have ho4 := own_keepR (unhide HOF) q2 hrl
            have hal : Below w4.heap.size w4 (w4.alloc (.cells #[.int .i32 0, .int .i64 r] 90)) := (Below.refl _ _).alloc (Nat.le_refl _) _
            have HO4 := hide (own_below ho4 hal)
            have HR4 := hide (q1.below hal)
            have HB4 := hide (((unhide HBF).trans q2).trans (But.of hal))
            have HSZ4 : Hid (w.heap.size ≤ (w4.alloc (.cells #[.int .i32 0, .int .i64 r] 90)).heap.size) := (unhide HB4).size
            have hky : sI.dkey = ((0, r), sF.num.2) := by unfold RS.dkey; rw [hF2, hr, unhide HN1, hfit]
            have HKY := hide hky
            clear q1 q2 ho4 hal HT2 HOF HBF HRF hky
            go_wp2_with (at_builtin; refine wpList_append_own _ rfl _ _ 22 rfl w.heap.size 90 i0 (.agg #[.int .i32 0, .int .i64 0]) 2 16 Tryz.underlying22 hi hz0 hz1 hz2 rfl (by decide) _ _ _ rfl (unhide HO4) ⟨w4.heap.size, 0, none⟩ 1 1 [.int .i32 0, .int .i64 r] rfl rfl ?d0 ?d1 ?d2 ?d3 ?d4 ?_)
            case d0 =>
              intro j u hu
              have hj : j < 2 := by have := (List.getElem?_eq_some_iff.1 hu).1; simpa using this
              have hadd : (⟨w4.heap.size, 0, none⟩ : Addr).add j = ⟨w4.heap.size, j, none⟩ := by unfold Addr.add; split <;> simp_all
              rw [hadd, World.cell?_alloc_new]
              simpa using hu
            case d1 => intro u hu; simp at hu; rcases hu with rfl | rfl <;> rfl
            case d2 => unfold maxLen; omega
            case d3 => omega
            case d4 => exact unhide HSZ4
            intro v' w5 ho5 hg5 _
            obtain ⟨ao', ca', rfl⟩ := own_shapeN ho5
            have HFN : Hid (w5.ownsRow w.heap.size 90 2 (.slice ao' (L.length + 1) ca') (RS.iter RS.dkey (i + 1) s2).1.length (keyCs (RS.iter RS.dkey (i + 1) s2).1) ∧ Dr w5 R lo z0 (RS.iter RS.dkey (i + 1) s2).2 ∧ But R w w5) := by
              rw [unhide HST, unhide HKY]
              refine ⟨?_, (unhide HR4).grown (unhide HO4) hrl hg5, (unhide HB4).grown (unhide HO4) (Nat.le_refl _) hg5⟩
              rw [List.length_append, keyCs_append]
              exact ho5
            clear ho5 hg5
            go_wp2
            go_roundw
            case rel => exact ⟨i + 1, by omega, by go_num, (unhide HFN).1, (unhide HFN).2.1, (unhide HFN).2.2⟩
            case measure => simp [intOf]; omega
          · skip
            have hfit : (if w32 n = n then n else 0) = n := if_pos (by unfold w32 wrap32; omega)
            have hw32 : IntKind.i32.wrap n = n := by rw [IntKind.wrap_i32]; omega
            have HRF : Hid (Dr w3 R lo z0 sI.fit32.2) := by
              have e : sI.fit32.2 = sI.num.2 := by unfold RS.fit32; rw [unhide HN1, if_pos (by unfold w32 wrap32; omega)]
              rw [e]; exact (unhide HR3)
            have HOF := HO3
            have HBF := HB3
            clear HR3 HO3 HB3
            generalize hF2 : sI.fit32.2 = sF at *
            have HT2 := hide (num_d (unhide HRF))
            obtain ⟨r, hr⟩ : ∃ r, sF.num.1 = r := ⟨_, rfl⟩
            rw [hr] at HT2
            go_wp2_with fail
            refine (unhide HT2).mono ?_
            rintro e w4 ⟨rfl, q1, q2⟩
            have ho4 := own_keepR (unhide HOF) q2 hrl
            have hal : Below w4.heap.size w4 (w4.alloc (.cells #[.int .i32 n, .int .i64 r] 90)) := (Below.refl _ _).alloc (Nat.le_refl _) _
            have HO4 := hide (own_below ho4 hal)
            have HR4 := hide (q1.below hal)
            have HB4 := hide (((unhide HBF).trans q2).trans (But.of hal))
            have HSZ4 : Hid (w.heap.size ≤ (w4.alloc (.cells #[.int .i32 n, .int .i64 r] 90)).heap.size) := (unhide HB4).size
            have hky : sI.dkey = ((n, r), sF.num.2) := by unfold RS.dkey; rw [hF2, hr, unhide HN1, hfit]
            have HKY := hide hky
            clear q1 q2 ho4 hal HT2 HOF HBF HRF hky
            go_wp2_with (at_builtin; refine wpList_append_own _ rfl _ _ 22 rfl w.heap.size 90 i0 (.agg #[.int .i32 0, .int .i64 0]) 2 16 Tryz.underlying22 hi hz0 hz1 hz2 rfl (by decide) _ _ _ rfl (unhide HO4) ⟨w4.heap.size, 0, none⟩ 1 1 [.int .i32 n, .int .i64 r] rfl rfl ?d0 ?d1 ?d2 ?d3 ?d4 ?_)
            case d0 =>
              intro j u hu
              have hj : j < 2 := by have := (List.getElem?_eq_some_iff.1 hu).1; simpa using this
              have hadd : (⟨w4.heap.size, 0, none⟩ : Addr).add j = ⟨w4.heap.size, j, none⟩ := by unfold Addr.add; split <;> simp_all
              rw [hadd, World.cell?_alloc_new]
              simpa using hu
            case d1 => intro u hu; simp at hu; rcases hu with rfl | rfl <;> rfl
            case d2 => unfold maxLen; omega
            case d3 => omega
            case d4 => exact unhide HSZ4
            intro v' w5 ho5 hg5 _
            obtain ⟨ao', ca', rfl⟩ := own_shapeN ho5
            have HFN : Hid (w5.ownsRow w.heap.size 90 2 (.slice ao' (L.length + 1) ca') (RS.iter RS.dkey (i + 1) s2).1.length (keyCs (RS.iter RS.dkey (i + 1) s2).1) ∧ Dr w5 R lo z0 (RS.iter RS.dkey (i + 1) s2).2 ∧ But R w w5) := by
              rw [unhide HST, unhide HKY]
              refine ⟨?_, (unhide HR4).grown (unhide HO4) hrl hg5, (unhide HB4).grown (unhide HO4) (Nat.le_refl _) hg5⟩
              rw [List.length_append, keyCs_append]
              exact ho5
            clear ho5 hg5
            go_wp2
            go_roundw
            case rel => exact ⟨i + 1, by omega, by go_num, (unhide HFN).1, (unhide HFN).2.1, (unhide HFN).2.2⟩
            case measure => simp [intOf]; omega
      · have hE : RS.iter RS.dkey m s2 = RS.iter RS.dkey i s2 := by
          have e := iter_stop (take := RS.dkey) (k := i) (s := s2) he (m - i)
          rwa [show i + (m - i) = m by omega] at e
        have HF : Hid (wr.ownsRow w.heap.size 90 2 (.slice ao (RS.iter RS.dkey i s2).1.length ca) (RS.iter RS.dkey m s2).1.length (keyCs (RS.iter RS.dkey m s2).1) ∧ Dr wr R lo z0 (RS.iter RS.dkey m s2).2 ∧ But R w wr) := by rw [hE]; exact ⟨ho, hr, hb⟩
        clear ho hr hb hE
        generalize (RS.iter RS.dkey i s2).2.er = er2 at g1 he
        have heb : (er2 == 0) = false := by simpa using he
        go_wp2
        go_ret
        exact ⟨_, rfl, unhide HF⟩
    · obtain rfl : i = m := by omega
      have HF : Hid (wr.ownsRow w.heap.size 90 2 (.slice ao (RS.iter RS.dkey i s2).1.length ca) (RS.iter RS.dkey i s2).1.length (keyCs (RS.iter RS.dkey i s2).1) ∧ Dr wr R lo z0 (RS.iter RS.dkey i s2).2 ∧ But R w wr) := ⟨ho, hr, hb⟩
      clear ho hr hb
      generalize (RS.iter RS.dkey i s2).2.er = er2 at g1
      go_wp2
      go_ret
      exact ⟨_, rfl, unhide HF⟩
end Go.Proofs.YtggllgimlfchhaaGreat

/- The document's own reader (package trivetref04): Txn. -/
namespace Go.Proofs.YtggllgimlfchhaaGreat
open Go.RowKit
set_option maxRecDepth 100000

theorem Dr.other {w : World} {R lo b : Nat} {z0 : List Int} {s : RS} (h : Dr w R lo z0 s) (hb : R < b) (o : Nat) (u : Value) : Dr (w.setCell ⟨b, o, none⟩ u) R lo z0 s :=
  h.keep fun k hk => Below.heap_setCell _ _ _ _ (fun e => by simp only at e; omega)
theorem append_int {w : World} {base g : Nat} {v : Value} {l : List Int} (hown : w.ownsRow base 2 1 v l.length (i64C l)) (x : Int) (hc : w.cell? ⟨g, 0, none⟩ = some (.int .i64 x)) (hl : l.length ≤ 4096) (hb : base ≤ w.heap.size) (ty : TypeId) :
    ∃ a' c' w', (Builtin.append_ #[24, 24] ty #[v, .slice (some ⟨g, 0, none⟩) 1 1]).run Tryz.prog w = .ok (.slice a' (l.length + 1) c') w' ∧ w'.ownsRow base 2 1 (.slice a' (l.length + 1) c') (l ++ [x]).length (i64C (l ++ [x])) ∧ w.grownBy w' v.ownBlock := by
  obtain ⟨i0, hi, hz0, hz1, hz2⟩ := info_parts Tryz.info2
  obtain ⟨v', w', h1, h2, h3, _⟩ := run_append_own (P := Tryz.prog) (w := w) base 24 ty 2 i0 (.int .i64 0) 1 8 Tryz.underlying24 hi hz0 hz1 hz2 rfl (by decide) v l.length (i64C l) hown ⟨g, 0, none⟩ 1 1 [.int .i64 x] rfl
    (fun j u hu => by
      have hj : j = 0 := by have := (List.getElem?_eq_some_iff.1 hu).1; simp at this; exact this
      subst hj
      have ha : (⟨g, 0, none⟩ : Addr).add 0 = ⟨g, 0, none⟩ := by unfold Addr.add; simp
      rw [ha, hc]; simpa using hu) (fun u hu => by simp at hu; subst hu; rfl) (by unfold maxLen; omega) (by omega) hb
  obtain ⟨a', c', rfl⟩ := own_shapeN h2
  refine ⟨a', c', w', h1, ?_, h3⟩
  rw [List.length_append, i64C_append]
  exact h2

/-- Where the loop of arguments stands. -/
structure TJ (w : World) (R lo : Nat) (ZB : List Int) (n1 n2 : Int) (a3 : Option Addr) (c3 : Nat) (l3 : List Int) (s : RS) (L : List Int) (wr : World) (a4 : Option Addr) (c4 : Nat) : Prop where
  t : wr.heap[w.heap.size + 1]? = some (.cells #[.int .i64 n1, .int .i64 n2, .slice a3 l3.length c3, .slice a4 L.length c4, .slice none 0 0, .slice none 0 0] 26)
  z : wr.heap[w.heap.size]? = some (.cells #[.int .i64 0, .int .i64 0, .slice none 0 0, .slice none 0 0, .slice none 0 0, .slice none 0 0] 26)
  code : wr.ownsRow (w.heap.size + 2) 5 1 (.slice a3 l3.length c3) l3.length (ints .u8 l3)
  args : wr.ownsRow (w.heap.size + 2) 2 1 (.slice a4 L.length c4) L.length (i64C L)
  rd : Dr wr R lo ZB s
  but : But R w wr
  size : w.heap.size + 2 ≤ wr.heap.size
theorem TJ.call {w : World} {R lo : Nat} {ZB : List Int} {n1 n2 : Int} {a3 : Option Addr} {c3 : Nat} {l3 : List Int} {s s' : RS} {L : List Int} {wr y : World} {a4 : Option Addr} {c4 : Nat} (h : TJ w R lo ZB n1 n2 a3 c3 l3 s L wr a4 c4) (hR : R < w.heap.size) (hd : Dr y R lo ZB s') (hb : But R wr y) : TJ w R lo ZB n1 n2 a3 c3 l3 s' L y a4 c4 :=
  ⟨hb.same h.t (by omega), hb.same h.z (by omega), own_keepR h.code hb (by omega), own_keepR h.args hb (by omega), hd, h.but.trans hb, Nat.le_trans h.size hb.size⟩
theorem TJ.below {w : World} {R lo : Nat} {ZB : List Int} {n1 n2 : Int} {a3 : Option Addr} {c3 : Nat} {l3 : List Int} {s : RS} {L : List Int} {wr y : World} {a4 : Option Addr} {c4 : Nat} (h : TJ w R lo ZB n1 n2 a3 c3 l3 s L wr a4 c4) (hR : R < w.heap.size) (hb : Below wr.heap.size wr y) : TJ w R lo ZB n1 n2 a3 c3 l3 s L y a4 c4 := h.call hR (h.rd.below hb) (But.of hb)
theorem TJ.step {w : World} {R lo : Nat} {ZB : List Int} {n1 n2 : Int} {a3 : Option Addr} {c3 : Nat} {l3 : List Int} {s : RS} {L : List Int} {wr : World} {a4 : Option Addr} {c4 g : Nat} (h : TJ w R lo ZB n1 n2 a3 c3 l3 s L wr a4 c4) (hR : R < w.heap.size) (hl : L.length ≤ 4096) (x : Int) (hc : wr.cell? ⟨g, 0, none⟩ = some (.int .i64 x)) (ty : TypeId) :
    ∃ a' c' w', (Builtin.append_ #[24, 24] ty #[.slice a4 L.length c4, .slice (some ⟨g, 0, none⟩) 1 1]).run Tryz.prog wr = .ok (.slice a' (L.length + 1) c') w' ∧ w'.cell? ⟨w.heap.size + 1, 3, none⟩ = some (.slice a4 L.length c4) ∧ (∀ o, w'.frozen? ⟨w.heap.size + 1, o, none⟩ = false) ∧
      TJ w R lo ZB n1 n2 a3 c3 l3 s (L ++ [x]) (w'.setCell ⟨w.heap.size + 1, 3, none⟩ (.slice a' (L.length + 1) c')) a' c' := by
  obtain ⟨a', c', w', h1, h2, h3⟩ := append_int h.args x hc hl h.size ty
  have bk : ∀ k, k < w.heap.size + 2 → w'.heap[k]? = wr.heap[k]? := fun k hk => h3.block k (by have := h.size; omega) (fun e => by have := (h.args.lt k e.symm).1; omega)
  have ht : w'.heap[w.heap.size + 1]? = _ := (bk _ (by omega)).trans h.t
  have hz : w'.heap[w.heap.size]? = _ := (bk _ (by omega)).trans h.z
  refine ⟨a', c', w', h1, cell_of_heap ht, fun o => frozen_of_heap ht, ?_⟩
  have hls : (L ++ [x]).length = L.length + 1 := by simp
  refine ⟨?_, ?_, ?_, ?_, ?_, ?_, ?_⟩
  · rw [hls]; exact setCell_heap ht
  · exact (Below.heap_setCell _ _ _ _ (fun e => by simp only at e; omega)).trans hz
  · exact own_setR (own_other h.code h.args (by decide) h3) (by omega) 3 _
  · rw [hls] at h2 ⊢; exact own_setR h2 (by omega) 3 _
  · exact (h.rd.grown h.args (by omega) h3).other (by omega) 3 _
  · exact (h.but.grown h.args (by omega) h3).new (b := w.heap.size + 1) (by omega) 3 _
  · simp only [World.setCell, Array.size_modify]; exact Nat.le_trans h.size h3.size

set_option maxHeartbeats 6400000 in
theorem txn_d {w : World} {R lo : Nat} {ZB : List Int} {s : RS} (h : Dr w R lo ZB s) :
    Calls Tryz.prog 95 #[.pointer (some ⟨R, 0, none⟩)] w fun e w' => ∃ cs, e = .returned (.agg cs) ∧ OwnT w.heap.size w' cs s.dtxn.1 ∧ Dr w' R lo ZB s.dtxn.2 ∧ But R w w' := by
  have hr := h.rlt
  obtain ⟨n1, s1, e1⟩ : ∃ n s', s.num = (n, s') := ⟨_, _, rfl⟩
  obtain ⟨n2, s2, e2⟩ : ∃ n s', s1.num = (n, s') := ⟨_, _, rfl⟩
  obtain ⟨l3, s3, e3⟩ : ∃ n s', s2.blob = (n, s') := ⟨_, _, rfl⟩
  obtain ⟨l4, s4, e4⟩ : ∃ n s', s3.list RS.num = (n, s') := ⟨_, _, rfl⟩
  obtain ⟨l5, s5, e5⟩ : ∃ n s', s4.list RS.dkey = (n, s') := ⟨_, _, rfl⟩
  obtain ⟨l6, s6, e6⟩ : ∃ n s', s5.list RS.dkey = (n, s') := ⟨_, _, rfl⟩
  have et : s.dtxn = (⟨n1, n2, l3, l4, l5, l6⟩, s6) := by simp only [RS.dtxn, e1, e2, e3, e4, e5, e6]
  rw [et]
  simp only
  have hal : Below w.heap.size w ((w.alloc (.cells #[.int .i64 0, .int .i64 0, .slice none 0 0, .slice none 0 0, .slice none 0 0, .slice none 0 0] 26)).alloc (.cells #[.int .i64 0, .int .i64 0, .slice none 0 0, .slice none 0 0, .slice none 0 0, .slice none 0 0] 26)) := ((Below.refl _ _).alloc (Nat.le_refl _) _).alloc (by simp) _
  have HC0 := hide (num_d (h.below hal))
  rw [e1] at HC0
  simp only at HC0
  have HB0 : Hid (But R w ((w.alloc (.cells #[.int .i64 0, .int .i64 0, .slice none 0 0, .slice none 0 0, .slice none 0 0, .slice none 0 0] 26)).alloc (.cells #[.int .i64 0, .int .i64 0, .slice none 0 0, .slice none 0 0, .slice none 0 0, .slice none 0 0] 26))) := But.of hal
  have HX0 : Hid (((w.alloc (.cells #[.int .i64 0, .int .i64 0, .slice none 0 0, .slice none 0 0, .slice none 0 0, .slice none 0 0] 26)).alloc (.cells #[.int .i64 0, .int .i64 0, .slice none 0 0, .slice none 0 0, .slice none 0 0, .slice none 0 0] 26)).heap[w.heap.size + 1]? = some (.cells #[.int .i64 0, .int .i64 0, .slice none 0 0, .slice none 0 0, .slice none 0 0, .slice none 0 0] 26) ∧ ((w.alloc (.cells #[.int .i64 0, .int .i64 0, .slice none 0 0, .slice none 0 0, .slice none 0 0, .slice none 0 0] 26)).alloc (.cells #[.int .i64 0, .int .i64 0, .slice none 0 0, .slice none 0 0, .slice none 0 0, .slice none 0 0] 26)).heap[w.heap.size]? = some (.cells #[.int .i64 0, .int .i64 0, .slice none 0 0, .slice none 0 0, .slice none 0 0, .slice none 0 0] 26)) := by
    have e : (w.alloc (.cells #[.int .i64 0, .int .i64 0, .slice none 0 0, .slice none 0 0, .slice none 0 0, .slice none 0 0] 26)).heap.size = w.heap.size + 1 := by simp
    have := heap_alloc_new (w.alloc (.cells #[.int .i64 0, .int .i64 0, .slice none 0 0, .slice none 0 0, .slice none 0 0, .slice none 0 0] 26)) (.cells #[.int .i64 0, .int .i64 0, .slice none 0 0, .slice none 0 0, .slice none 0 0, .slice none 0 0] 26)
    rw [e] at this
    exact ⟨this, (Below.heap_alloc _ _ _ (by simp)).trans (heap_alloc_new w _)⟩
  have HSZ0 : Hid (w.heap.size + 2 ≤ ((w.alloc (.cells #[.int .i64 0, .int .i64 0, .slice none 0 0, .slice none 0 0, .slice none 0 0, .slice none 0 0] 26)).alloc (.cells #[.int .i64 0, .int .i64 0, .slice none 0 0, .slice none 0 0, .slice none 0 0, .slice none 0 0] 26)).heap.size) := by show _ ≤ _; simp
  have HE : Hid (s1.num = (n2, s2) ∧ s2.blob = (l3, s3) ∧ s3.list RS.num = (l4, s4) ∧ s4.list RS.dkey = (l5, s5) ∧ s5.list RS.dkey = (l6, s6)) := ⟨e2, e3, e4, e5, e6⟩
  clear h hal et e1 e2 e3 e4 e5 e6
  go_enter Tryz.func95, Tryz.ntmps95
  go_wp2_with fail
  refine (unhide HC0).mono ?_
  rintro e y1 ⟨rfl, p0, q0⟩
  have hx0 : y1.heap[w.heap.size + 1]? = some (.cells #[.int .i64 0, .int .i64 0, .slice none 0 0, .slice none 0 0, .slice none 0 0, .slice none 0 0] 26) := q0.same (unhide HX0).1 (by omega)
  have hy0 : y1.heap[w.heap.size]? = some (.cells #[.int .i64 0, .int .i64 0, .slice none 0 0, .slice none 0 0, .slice none 0 0, .slice none 0 0] 26) := q0.same (unhide HX0).2 (by omega)
  have k0 : y1.cell? ⟨w.heap.size + 1, 0, none⟩ = some (.int .i64 0) := cell_of_heap hx0
  have f0 : ∀ o, y1.frozen? ⟨w.heap.size + 1, o, none⟩ = false := fun o => frozen_of_heap hx0
  have HX1 : Hid ((y1.setCell ⟨w.heap.size + 1, 0, none⟩ (.int .i64 n1)).heap[w.heap.size + 1]? = some (.cells #[.int .i64 n1, .int .i64 0, .slice none 0 0, .slice none 0 0, .slice none 0 0, .slice none 0 0] 26) ∧ (y1.setCell ⟨w.heap.size + 1, 0, none⟩ (.int .i64 n1)).heap[w.heap.size]? = some (.cells #[.int .i64 0, .int .i64 0, .slice none 0 0, .slice none 0 0, .slice none 0 0, .slice none 0 0] 26)) := ⟨setCell_heap hx0, (Below.heap_setCell _ _ _ _ (fun e => by simp only at e; omega)).trans hy0⟩
  have hsz0 := Nat.le_trans (unhide HSZ0) q0.size
  have HSZ1 : Hid (w.heap.size + 2 ≤ (y1.setCell ⟨w.heap.size + 1, 0, none⟩ (.int .i64 n1)).heap.size) := by show _ ≤ _; simp only [World.setCell, Array.size_modify]; exact hsz0
  have HR1 := hide (p0.other (b := w.heap.size + 1) (by omega) 0 (.int .i64 n1))
  have HB1 := hide (((unhide HB0).trans q0).new (b := w.heap.size + 1) (by omega) 0 (.int .i64 n1))
  have HC1 := hide (num_d (unhide HR1))
  rw [(unhide HE).1] at HC1
  simp only at HC1
  clear p0 q0 hx0 hy0 hsz0 HC0
  go_wp2_with fail
  refine (unhide HC1).mono ?_
  rintro e y2 ⟨rfl, p1, q1⟩
  have hx1 : y2.heap[w.heap.size + 1]? = some (.cells #[.int .i64 n1, .int .i64 0, .slice none 0 0, .slice none 0 0, .slice none 0 0, .slice none 0 0] 26) := q1.same (unhide HX1).1 (by omega)
  have hy1 : y2.heap[w.heap.size]? = some (.cells #[.int .i64 0, .int .i64 0, .slice none 0 0, .slice none 0 0, .slice none 0 0, .slice none 0 0] 26) := q1.same (unhide HX1).2 (by omega)
  have k1 : y2.cell? ⟨w.heap.size + 1, 1, none⟩ = some (.int .i64 0) := cell_of_heap hx1
  have f1 : ∀ o, y2.frozen? ⟨w.heap.size + 1, o, none⟩ = false := fun o => frozen_of_heap hx1
  have HX2 : Hid ((y2.setCell ⟨w.heap.size + 1, 1, none⟩ (.int .i64 n2)).heap[w.heap.size + 1]? = some (.cells #[.int .i64 n1, .int .i64 n2, .slice none 0 0, .slice none 0 0, .slice none 0 0, .slice none 0 0] 26) ∧ (y2.setCell ⟨w.heap.size + 1, 1, none⟩ (.int .i64 n2)).heap[w.heap.size]? = some (.cells #[.int .i64 0, .int .i64 0, .slice none 0 0, .slice none 0 0, .slice none 0 0, .slice none 0 0] 26)) := ⟨setCell_heap hx1, (Below.heap_setCell _ _ _ _ (fun e => by simp only at e; omega)).trans hy1⟩
  have hsz1 := Nat.le_trans (unhide HSZ1) q1.size
  have HSZ2 : Hid (w.heap.size + 2 ≤ (y2.setCell ⟨w.heap.size + 1, 1, none⟩ (.int .i64 n2)).heap.size) := by show _ ≤ _; simp only [World.setCell, Array.size_modify]; exact hsz1
  have HR2 := hide (p1.other (b := w.heap.size + 1) (by omega) 1 (.int .i64 n2))
  have HB2 := hide (((unhide HB1).trans q1).new (b := w.heap.size + 1) (by omega) 1 (.int .i64 n2))
  have HC2 := hide (data_d (unhide HR2))
  rw [(unhide HE).2.1] at HC2
  simp only at HC2
  clear p1 q1 hx1 hy1 hsz1 HC1
  go_wp2_with fail
  refine (unhide HC2).mono ?_
  rintro e y3 ⟨x2, rfl, r2, p2, q2⟩
  obtain ⟨a3, c3, rfl⟩ := own_shapeN r2
  have hx2 : y3.heap[w.heap.size + 1]? = some (.cells #[.int .i64 n1, .int .i64 n2, .slice none 0 0, .slice none 0 0, .slice none 0 0, .slice none 0 0] 26) := q2.same (unhide HX2).1 (by omega)
  have hy2 : y3.heap[w.heap.size]? = some (.cells #[.int .i64 0, .int .i64 0, .slice none 0 0, .slice none 0 0, .slice none 0 0, .slice none 0 0] 26) := q2.same (unhide HX2).2 (by omega)
  have k2 : y3.cell? ⟨w.heap.size + 1, 2, none⟩ = some (.slice none 0 0) := cell_of_heap hx2
  have f2 : ∀ o, y3.frozen? ⟨w.heap.size + 1, o, none⟩ = false := fun o => frozen_of_heap hx2
  have HX3 : Hid ((y3.setCell ⟨w.heap.size + 1, 2, none⟩ (.slice a3 l3.length c3)).heap[w.heap.size + 1]? = some (.cells #[.int .i64 n1, .int .i64 n2, .slice a3 l3.length c3, .slice none 0 0, .slice none 0 0, .slice none 0 0] 26) ∧ (y3.setCell ⟨w.heap.size + 1, 2, none⟩ (.slice a3 l3.length c3)).heap[w.heap.size]? = some (.cells #[.int .i64 0, .int .i64 0, .slice none 0 0, .slice none 0 0, .slice none 0 0, .slice none 0 0] 26)) := ⟨setCell_heap hx2, (Below.heap_setCell _ _ _ _ (fun e => by simp only at e; omega)).trans hy2⟩
  have hsz2 := Nat.le_trans (unhide HSZ2) q2.size
  have HSZ3 : Hid (w.heap.size + 2 ≤ (y3.setCell ⟨w.heap.size + 1, 2, none⟩ (.slice a3 l3.length c3)).heap.size) := by show _ ≤ _; simp only [World.setCell, Array.size_modify]; exact hsz2
  have HR3 := hide (p2.other (b := w.heap.size + 1) (by omega) 2 (.slice a3 l3.length c3))
  have HB3 := hide (((unhide HB2).trans q2).new (b := w.heap.size + 1) (by omega) 2 (.slice a3 l3.length c3))
  have HO3x2 : Hid ((y3.setCell ⟨w.heap.size + 1, 2, none⟩ (.slice a3 l3.length c3)).ownsRow (w.heap.size + 2) 5 1 (.slice a3 l3.length c3) l3.length (ints .u8 l3)) := own_setR (own_monoN r2 (unhide HSZ2)) (by omega) 2 _
  have HC3 := hide (len_d (unhide HR3))
  obtain ⟨m, hm, hm4⟩ := lenV_nat s3.num.1
  have hl4 : RS.iter RS.num m s3.len = (l4, s4) := by have := (unhide HE).2.2.1; rw [list_lenV, hm, Int.toNat_natCast] at this; exact this
  have HL4 := hide hl4
  rw [hm] at HC3
  obtain ⟨sL, hsL⟩ : ∃ x, s3.len = x := ⟨_, rfl⟩
  rw [hsL] at HC3 HL4
  clear p2 q2 hx2 hy2 hsz2 r2 HC2 hm hl4 hsL
  go_wp2_with fail
  refine (unhide HC3).mono ?_
  rintro e y4 ⟨rfl, p3, q3⟩
  have HTJ : Hid (TJ w R lo ZB n1 n2 a3 c3 l3 sL [] y4 none 0) := (TJ.mk (a4 := none) (c4 := 0) (L := []) (unhide HX3).1 (unhide HX3).2 (unhide HO3x2) (World.ownsRow_nil _ _ _ _) (unhide HR3) (unhide HB3) (unhide HSZ3)).call hr p3 q3
  clear p3 q3 HC3 HX3 HO3x2 HR3 HB3 HSZ3
  go_wp2_with fail
  go_loopw [5] (fun c wr => ∃ i : Nat, i ≤ m ∧ c = .int .i64 i ∧ ∃ a4 c4, TJ w R lo ZB n1 n2 a3 c3 l3 (RS.iter RS.num i sL).2 (RS.iter RS.num i sL).1 wr a4 c4) (fun c _ => m - (intOf c).toNat)
  case atStart => exact ⟨0, by omega, rfl, none, 0, unhide HTJ⟩
  case round =>
    obtain ⟨i, him, rfl, a4, c4, hJ⟩ := hrel
    have g1 := hJ.rd.ce
    have hil := iter_len RS.num sL i
    by_cases hlt : i < m
    · by_cases he : (RS.iter RS.num i sL).2.er = 0
      · rw [he] at g1
        have hst := iter_step he
        have HST := hide hst
        have hJd := hJ.below hr (y := wr.drew) (Below.refl _ _).drew
        have HT := hide (num_d hJd.rd)
        have HJ := hide hJd
        have hk3 : wr.cell? ⟨w.heap.size + 1, 3, none⟩ = some (.slice a4 (RS.iter RS.num i sL).1.length c4) := cell_of_heap hJ.t
        clear hst he hJ hJd HTJ
        generalize RS.iter RS.num i sL = it at *
        obtain ⟨L, sI⟩ := it
        simp only at HST HT HJ hil g1 hk3 ⊢
        obtain ⟨n, hn⟩ : ∃ n, sI.num.1 = n := ⟨_, rfl⟩
        rw [hn] at HT HST
        have AFT : Hid (∀ y5 : World, Dr y5 R lo ZB sI.num.2 → But R wr.drew y5 → y5.cell? ⟨w.heap.size + 1, 3, none⟩ = some (.slice a4 L.length c4) ∧ (y5.alloc (.cells #[.int .i64 n] 2)).cell? ⟨w.heap.size + 1, 3, none⟩ = some (.slice a4 L.length c4) ∧ ∃ a' c' w', (Builtin.append_ #[24, 24] 32 #[.slice a4 L.length c4, .slice (some ⟨y5.heap.size, 0, none⟩) 1 1]).run Tryz.prog (y5.alloc (.cells #[.int .i64 n] 2)) = .ok (.slice a' (L.length + 1) c') w' ∧ w'.cell? ⟨w.heap.size + 1, 3, none⟩ = some (.slice a4 L.length c4) ∧ (∀ o, w'.frozen? ⟨w.heap.size + 1, o, none⟩ = false) ∧ TJ w R lo ZB n1 n2 a3 c3 l3 (RS.iter RS.num (i + 1) sL).2 (RS.iter RS.num (i + 1) sL).1 (w'.setCell ⟨w.heap.size + 1, 3, none⟩ (.slice a' (L.length + 1) c')) a' c') := fun y5 p q => by
          have j5 := (unhide HJ).call hr p q
          have j6 := j5.below hr (y := y5.alloc (.cells #[.int .i64 n] 2)) ((Below.refl _ _).alloc (Nat.le_refl _) _)
          refine ⟨cell_of_heap j5.t, cell_of_heap j6.t, ?_⟩
          rw [unhide HST]
          exact j6.step hr (by omega) n (by rw [World.cell?_alloc_new]; rfl) 32
        clear HJ HST
        go_wp2_with fail
        refine wp_region_held_drew (S := fun _ => True) (by kernel_rfl) trivial (fun hHeld => ?_)
        refine wpAnyH_take (i := 0) (v := ?v1x0) rfl (by kernel_rfl) (by kernel_rfl) (by kernel_rfl) (fun _ _ _ h => h) (Or.inl ⟨by rfl, ?hy1x0⟩) (by assumption) ?rest1x0
        case hy1x0 => intro w hSw; go_simp <;> with_reducible rfl
        simp only [Act.put, List.getElem_toArray, List.getElem_cons_zero, List.setIfInBounds_toArray, List.set_cons_zero, List.set_cons_succ]
        refine wpAnyH_take (i := 2) (v := ?v2x2) rfl (by kernel_rfl) (by kernel_rfl) (by kernel_rfl) (fun _ _ _ h => h) (Or.inl ⟨by rfl, ?hy2x2⟩) (by assumption) ?rest2x2
        case hy2x2 => intro w hSw; go_simp <;> with_reducible rfl
        simp only [Act.put, List.getElem_toArray, List.getElem_cons_zero, List.getElem_cons_succ, List.setIfInBounds_toArray, List.set_cons_zero, List.set_cons_succ]
        refine wpAnyH_ready (rs := [1, 3]) (by kernel_rfl) (by simp) ?_
        refine AllReadyH.cons rfl (fun K hK => ?_) (AllReadyH.cons rfl (fun K hK => ?_) AllReadyH.nil)
        · go_simp
          refine hK _ _ trivial ?_
          clear hK hHeld
          intro hHeld
          refine wpAnyH_ready (rs := [3]) (by kernel_rfl) (by simp) ?_
          refine AllReadyH.cons rfl (fun K hK => ?_) AllReadyH.nil
          go_simp
          refine (unhide HT).mono ?_
          rintro e y5 ⟨rfl, p5, q5⟩
          refine hK _ _ trivial ?_
          clear hK hHeld
          intro hHeld
          obtain ⟨hk5, hk6, a', c', w7, hr7, hk7, hf7, hJ7⟩ := unhide AFT y5 p5 q5
          have HJ7 := hide hJ7
          clear p5 q5 hJ7
          refine wpAnyH_ready (rs := [4]) (by kernel_rfl) (by simp) ?_
          refine AllReadyH.cons rfl (fun K hK => ?_) AllReadyH.nil
          go_simp
          refine hK _ _ trivial ?_
          clear hK hHeld
          intro hHeld
          refine wpAnyH_ready (rs := [5]) (by kernel_rfl) (by simp) ?_
          refine AllReadyH.cons rfl (fun K hK => ?_) AllReadyH.nil
          rw [if_pos (by rfl)]
          refine append_upon rfl rfl rfl hr7 ?_
          simp only [Act.put, List.getElem_toArray, List.getElem_cons_zero, List.getElem_cons_succ, List.setIfInBounds_toArray, List.set_cons_zero, List.set_cons_succ]
          refine hK _ _ trivial ?_
          clear hK hHeld
          intro hHeld
          clear hr7
          refine wpAnyH_take (i := 6) (v := ?v3x6) rfl (by kernel_rfl) (by kernel_rfl) (by kernel_rfl) (fun _ _ _ h => h) (Or.inl ⟨by rfl, ?hy3x6⟩) (by assumption) ?rest3x6
          case hy3x6 => intro w hSw; go_simp <;> with_reducible rfl
          simp only [Act.put, List.getElem_toArray, List.getElem_cons_zero, List.getElem_cons_succ, List.setIfInBounds_toArray, List.set_cons_zero, List.set_cons_succ]
          refine wpAnyH_ready (rs := [7]) (by kernel_rfl) (by simp) ?_
          refine AllReadyH.cons rfl (fun K hK => ?_) AllReadyH.nil
          go_simp
          refine hK _ _ trivial ?_
          clear hK hHeld
          intro hHeld
          refine wpAnyH_done (by kernel_rfl) ?_ _
          go_wp2
          go_roundw
          case rel => exact ⟨i + 1, by omega, by go_num, a', c', unhide HJ7⟩
          case measure => simp [intOf]; omega
        · go_simp
          refine (unhide HT).mono ?_
          rintro e y5 ⟨rfl, p5, q5⟩
          refine hK _ _ trivial ?_
          clear hK hHeld
          intro hHeld
          obtain ⟨hk5, hk6, a', c', w7, hr7, hk7, hf7, hJ7⟩ := unhide AFT y5 p5 q5
          have HJ7 := hide hJ7
          clear p5 q5 hJ7
          refine wpAnyH_ready (rs := [1, 4]) (by kernel_rfl) (by simp) ?_
          refine AllReadyH.cons rfl (fun K hK => ?_) (AllReadyH.cons rfl (fun K hK => ?_) AllReadyH.nil)
          · go_simp
            refine hK _ _ trivial ?_
            clear hK hHeld
            intro hHeld
            refine wpAnyH_ready (rs := [4]) (by kernel_rfl) (by simp) ?_
            refine AllReadyH.cons rfl (fun K hK => ?_) AllReadyH.nil
            go_simp
            refine hK _ _ trivial ?_
            clear hK hHeld
            intro hHeld
            refine wpAnyH_ready (rs := [5]) (by kernel_rfl) (by simp) ?_
            refine AllReadyH.cons rfl (fun K hK => ?_) AllReadyH.nil
            rw [if_pos (by rfl)]
            refine append_upon rfl rfl rfl hr7 ?_
            simp only [Act.put, List.getElem_toArray, List.getElem_cons_zero, List.getElem_cons_succ, List.setIfInBounds_toArray, List.set_cons_zero, List.set_cons_succ]
            refine hK _ _ trivial ?_
            clear hK hHeld
            intro hHeld
            clear hr7
            refine wpAnyH_take (i := 6) (v := ?v4x6) rfl (by kernel_rfl) (by kernel_rfl) (by kernel_rfl) (fun _ _ _ h => h) (Or.inl ⟨by rfl, ?hy4x6⟩) (by assumption) ?rest4x6
            case hy4x6 => intro w hSw; go_simp <;> with_reducible rfl
            simp only [Act.put, List.getElem_toArray, List.getElem_cons_zero, List.getElem_cons_succ, List.setIfInBounds_toArray, List.set_cons_zero, List.set_cons_succ]
            refine wpAnyH_ready (rs := [7]) (by kernel_rfl) (by simp) ?_
            refine AllReadyH.cons rfl (fun K hK => ?_) AllReadyH.nil
            go_simp
            refine hK _ _ trivial ?_
            clear hK hHeld
            intro hHeld
            refine wpAnyH_done (by kernel_rfl) ?_ _
            go_wp2
            go_roundw
            case rel => exact ⟨i + 1, by omega, by go_num, a', c', unhide HJ7⟩
            case measure => simp [intOf]; omega
          · go_simp
            refine hK _ _ trivial ?_
            clear hK hHeld
            intro hHeld
            refine wpAnyH_ready (rs := [1]) (by kernel_rfl) (by simp) ?_
            refine AllReadyH.cons rfl (fun K hK => ?_) AllReadyH.nil
            go_simp
            refine hK _ _ trivial ?_
            clear hK hHeld
            intro hHeld
            refine wpAnyH_ready (rs := [5]) (by kernel_rfl) (by simp) ?_
            refine AllReadyH.cons rfl (fun K hK => ?_) AllReadyH.nil
            rw [if_pos (by rfl)]
            refine append_upon rfl rfl rfl hr7 ?_
            simp only [Act.put, List.getElem_toArray, List.getElem_cons_zero, List.getElem_cons_succ, List.setIfInBounds_toArray, List.set_cons_zero, List.set_cons_succ]
            refine hK _ _ trivial ?_
            clear hK hHeld
            intro hHeld
            clear hr7
            refine wpAnyH_take (i := 6) (v := ?v5x6) rfl (by kernel_rfl) (by kernel_rfl) (by kernel_rfl) (fun _ _ _ h => h) (Or.inl ⟨by rfl, ?hy5x6⟩) (by assumption) ?rest5x6
            case hy5x6 => intro w hSw; go_simp <;> with_reducible rfl
            simp only [Act.put, List.getElem_toArray, List.getElem_cons_zero, List.getElem_cons_succ, List.setIfInBounds_toArray, List.set_cons_zero, List.set_cons_succ]
            refine wpAnyH_ready (rs := [7]) (by kernel_rfl) (by simp) ?_
            refine AllReadyH.cons rfl (fun K hK => ?_) AllReadyH.nil
            go_simp
            refine hK _ _ trivial ?_
            clear hK hHeld
            intro hHeld
            refine wpAnyH_done (by kernel_rfl) ?_ _
            go_wp2
            go_roundw
            case rel => exact ⟨i + 1, by omega, by go_num, a', c', unhide HJ7⟩
            case measure => simp [intOf]; omega
      · have hE : RS.iter RS.num i sL = (l4, s4) := by
          have e := iter_stop (take := RS.num) (k := i) (s := sL) he (m - i)
          rw [show i + (m - i) = m by omega] at e
          rw [← e]; exact unhide HL4
        rw [hE] at g1 hJ he
        have heb : (s4.er == 0) = false := by simpa using he
        have HX4 : Hid (wr.heap[w.heap.size + 1]? = some (.cells #[.int .i64 n1, .int .i64 n2, .slice a3 l3.length c3, .slice a4 l4.length c4, .slice none 0 0, .slice none 0 0] 26) ∧ wr.heap[w.heap.size]? = some (.cells #[.int .i64 0, .int .i64 0, .slice none 0 0, .slice none 0 0, .slice none 0 0, .slice none 0 0] 26)) := ⟨hJ.t, hJ.z⟩
        have HSZ4 : Hid (w.heap.size + 2 ≤ wr.heap.size) := hJ.size
        have HR4 := hide hJ.rd
        have HB4 := hide hJ.but
        have HO3x3 := hide hJ.code
        have HO4x3 := hide hJ.args
        clear hJ hil HTJ
        have HC4 := hide (keys_d (unhide HR4))
        rw [(unhide HE).2.2.2.1] at HC4
        simp only at HC4
        skip
        go_wp2_with fail
        refine (unhide HC4).mono ?_
        rintro e y5 ⟨x4, rfl, r4, p4, q4⟩
        obtain ⟨a5, c5, rfl⟩ := own_shapeN r4
        have hx4 : y5.heap[w.heap.size + 1]? = some (.cells #[.int .i64 n1, .int .i64 n2, .slice a3 l3.length c3, .slice a4 l4.length c4, .slice none 0 0, .slice none 0 0] 26) := q4.same (unhide HX4).1 (by omega)
        have hy4 : y5.heap[w.heap.size]? = some (.cells #[.int .i64 0, .int .i64 0, .slice none 0 0, .slice none 0 0, .slice none 0 0, .slice none 0 0] 26) := q4.same (unhide HX4).2 (by omega)
        have k4 : y5.cell? ⟨w.heap.size + 1, 4, none⟩ = some (.slice none 0 0) := cell_of_heap hx4
        have f4 : ∀ o, y5.frozen? ⟨w.heap.size + 1, o, none⟩ = false := fun o => frozen_of_heap hx4
        have HX5 : Hid ((y5.setCell ⟨w.heap.size + 1, 4, none⟩ (.slice a5 l5.length c5)).heap[w.heap.size + 1]? = some (.cells #[.int .i64 n1, .int .i64 n2, .slice a3 l3.length c3, .slice a4 l4.length c4, .slice a5 l5.length c5, .slice none 0 0] 26) ∧ (y5.setCell ⟨w.heap.size + 1, 4, none⟩ (.slice a5 l5.length c5)).heap[w.heap.size]? = some (.cells #[.int .i64 0, .int .i64 0, .slice none 0 0, .slice none 0 0, .slice none 0 0, .slice none 0 0] 26)) := ⟨setCell_heap hx4, (Below.heap_setCell _ _ _ _ (fun e => by simp only at e; omega)).trans hy4⟩
        have hsz4 := Nat.le_trans (unhide HSZ4) q4.size
        have HSZ5 : Hid (w.heap.size + 2 ≤ (y5.setCell ⟨w.heap.size + 1, 4, none⟩ (.slice a5 l5.length c5)).heap.size) := by show _ ≤ _; simp only [World.setCell, Array.size_modify]; exact hsz4
        have HR5 := hide (p4.other (b := w.heap.size + 1) (by omega) 4 (.slice a5 l5.length c5))
        have HB5 := hide (((unhide HB4).trans q4).new (b := w.heap.size + 1) (by omega) 4 (.slice a5 l5.length c5))
        have HO3x4 := hide (own_setR (own_keepR (unhide HO3x3) q4 (by omega)) (by omega : w.heap.size + 1 < w.heap.size + 2) 4 (.slice a5 l5.length c5))
        have HO4x4 := hide (own_setR (own_keepR (unhide HO4x3) q4 (by omega)) (by omega : w.heap.size + 1 < w.heap.size + 2) 4 (.slice a5 l5.length c5))
        have HO5x4 : Hid ((y5.setCell ⟨w.heap.size + 1, 4, none⟩ (.slice a5 l5.length c5)).ownsRow (w.heap.size + 2) 90 2 (.slice a5 l5.length c5) l5.length (keyCs l5)) := own_setR (own_monoN r4 (unhide HSZ4)) (by omega) 4 _
        have HC5 := hide (keys_d (unhide HR5))
        rw [(unhide HE).2.2.2.2] at HC5
        simp only at HC5
        clear p4 q4 hx4 hy4 hsz4 r4 HC4
        go_wp2_with fail
        refine (unhide HC5).mono ?_
        rintro e y6 ⟨x5, rfl, r5, p5, q5⟩
        obtain ⟨a6, c6, rfl⟩ := own_shapeN r5
        have hx5 : y6.heap[w.heap.size + 1]? = some (.cells #[.int .i64 n1, .int .i64 n2, .slice a3 l3.length c3, .slice a4 l4.length c4, .slice a5 l5.length c5, .slice none 0 0] 26) := q5.same (unhide HX5).1 (by omega)
        have hy5 : y6.heap[w.heap.size]? = some (.cells #[.int .i64 0, .int .i64 0, .slice none 0 0, .slice none 0 0, .slice none 0 0, .slice none 0 0] 26) := q5.same (unhide HX5).2 (by omega)
        have k5 : y6.cell? ⟨w.heap.size + 1, 5, none⟩ = some (.slice none 0 0) := cell_of_heap hx5
        have f5 : ∀ o, y6.frozen? ⟨w.heap.size + 1, o, none⟩ = false := fun o => frozen_of_heap hx5
        have HX6 : Hid ((y6.setCell ⟨w.heap.size + 1, 5, none⟩ (.slice a6 l6.length c6)).heap[w.heap.size + 1]? = some (.cells #[.int .i64 n1, .int .i64 n2, .slice a3 l3.length c3, .slice a4 l4.length c4, .slice a5 l5.length c5, .slice a6 l6.length c6] 26) ∧ (y6.setCell ⟨w.heap.size + 1, 5, none⟩ (.slice a6 l6.length c6)).heap[w.heap.size]? = some (.cells #[.int .i64 0, .int .i64 0, .slice none 0 0, .slice none 0 0, .slice none 0 0, .slice none 0 0] 26)) := ⟨setCell_heap hx5, (Below.heap_setCell _ _ _ _ (fun e => by simp only at e; omega)).trans hy5⟩
        have hsz5 := Nat.le_trans (unhide HSZ5) q5.size
        have HSZ6 : Hid (w.heap.size + 2 ≤ (y6.setCell ⟨w.heap.size + 1, 5, none⟩ (.slice a6 l6.length c6)).heap.size) := by show _ ≤ _; simp only [World.setCell, Array.size_modify]; exact hsz5
        have HR6 := hide (p5.other (b := w.heap.size + 1) (by omega) 5 (.slice a6 l6.length c6))
        have HB6 := hide (((unhide HB5).trans q5).new (b := w.heap.size + 1) (by omega) 5 (.slice a6 l6.length c6))
        have HO3x5 := hide (own_setR (own_keepR (unhide HO3x4) q5 (by omega)) (by omega : w.heap.size + 1 < w.heap.size + 2) 5 (.slice a6 l6.length c6))
        have HO4x5 := hide (own_setR (own_keepR (unhide HO4x4) q5 (by omega)) (by omega : w.heap.size + 1 < w.heap.size + 2) 5 (.slice a6 l6.length c6))
        have HO5x5 := hide (own_setR (own_keepR (unhide HO5x4) q5 (by omega)) (by omega : w.heap.size + 1 < w.heap.size + 2) 5 (.slice a6 l6.length c6))
        have HO6x5 : Hid ((y6.setCell ⟨w.heap.size + 1, 5, none⟩ (.slice a6 l6.length c6)).ownsRow (w.heap.size + 2) 90 2 (.slice a6 l6.length c6) l6.length (keyCs l6)) := own_setR (own_monoN r5 (unhide HSZ5)) (by omega) 5 _
        clear p5 q5 hx5 hy5 hsz5 r5 HC5
        have m0 := unhide HX6
        obtain ⟨y7, hy7⟩ : ∃ y7, (y6.setCell ⟨w.heap.size + 1, 5, none⟩ (.slice a6 l6.length c6)) = y7 := ⟨_, rfl⟩
        rw [hy7] at m0 HR6 HB6 HO3x5 HO4x5 HO5x5 HO6x5
        have t0 : y7.cell? ⟨w.heap.size + 1, 0, none⟩ = some (.int .i64 n1) := cell_of_heap m0.1
        have t1 : y7.cell? ⟨w.heap.size + 1, 1, none⟩ = some (.int .i64 n2) := cell_of_heap m0.1
        have t2 : y7.cell? ⟨w.heap.size + 1, 2, none⟩ = some (.slice a3 l3.length c3) := cell_of_heap m0.1
        have t3 : y7.cell? ⟨w.heap.size + 1, 3, none⟩ = some (.slice a4 l4.length c4) := cell_of_heap m0.1
        have t4 : y7.cell? ⟨w.heap.size + 1, 4, none⟩ = some (.slice a5 l5.length c5) := cell_of_heap m0.1
        have t5 : y7.cell? ⟨w.heap.size + 1, 5, none⟩ = some (.slice a6 l6.length c6) := cell_of_heap m0.1
        have z0 : y7.cell? ⟨w.heap.size, 0, none⟩ = some (.int .i64 0) := cell_of_heap m0.2
        have z1 : y7.cell? ⟨w.heap.size, 1, none⟩ = some (.int .i64 0) := cell_of_heap m0.2
        have z2 : y7.cell? ⟨w.heap.size, 2, none⟩ = some (.slice none 0 0) := cell_of_heap m0.2
        have z3 : y7.cell? ⟨w.heap.size, 3, none⟩ = some (.slice none 0 0) := cell_of_heap m0.2
        have z4 : y7.cell? ⟨w.heap.size, 4, none⟩ = some (.slice none 0 0) := cell_of_heap m0.2
        have z5 : y7.cell? ⟨w.heap.size, 5, none⟩ = some (.slice none 0 0) := cell_of_heap m0.2
        have fz7 : ∀ o, y7.frozen? ⟨w.heap.size, o, none⟩ = false := fun o => frozen_of_heap m0.2
        have M0 := hide m0
        clear m0
        go_wp2_with fail
        refine bodyPost_ret (results_cell_row rfl _ _ w.heap.size 26 #[.int .i64 n1, .int .i64 n2, .slice a3 l3.length c3, .slice a4 l4.length c4, .slice a5 l5.length c5, .slice a6 l6.length c6] (0, 0) _ rfl (setCell_heap (setCell_heap (setCell_heap (setCell_heap (setCell_heap (setCell_heap (unhide M0).2)))))) Tryz.underlying26 rfl (by kernel_rfl)) rfl ?_
        refine ⟨_, rfl, ⟨_, _, _, _, rfl, ?_, ?_, ?_, ?_⟩, (((((((unhide HR6).other hr _ _).other hr _ _).other hr _ _).other hr _ _).other hr _ _).other hr _ _), (((((((unhide HB6).new (Nat.le_refl _) _ _).new (Nat.le_refl _) _ _).new (Nat.le_refl _) _ _).new (Nat.le_refl _) _ _).new (Nat.le_refl _) _ _).new (Nat.le_refl _) _ _)⟩
        · exact own_monoN (own_setR (own_setR (own_setR (own_setR (own_setR (own_setR (unhide HO3x5) (by omega) _ _) (by omega) _ _) (by omega) _ _) (by omega) _ _) (by omega) _ _) (by omega) _ _) (by omega)
        · exact own_monoN (own_setR (own_setR (own_setR (own_setR (own_setR (own_setR (unhide HO4x5) (by omega) _ _) (by omega) _ _) (by omega) _ _) (by omega) _ _) (by omega) _ _) (by omega) _ _) (by omega)
        · exact own_monoN (own_setR (own_setR (own_setR (own_setR (own_setR (own_setR (unhide HO5x5) (by omega) _ _) (by omega) _ _) (by omega) _ _) (by omega) _ _) (by omega) _ _) (by omega) _ _) (by omega)
        · exact own_monoN (own_setR (own_setR (own_setR (own_setR (own_setR (own_setR (unhide HO6x5) (by omega) _ _) (by omega) _ _) (by omega) _ _) (by omega) _ _) (by omega) _ _) (by omega) _ _) (by omega)
    · obtain rfl : i = m := by omega
      rw [unhide HL4] at g1 hJ
      have HX4 : Hid (wr.heap[w.heap.size + 1]? = some (.cells #[.int .i64 n1, .int .i64 n2, .slice a3 l3.length c3, .slice a4 l4.length c4, .slice none 0 0, .slice none 0 0] 26) ∧ wr.heap[w.heap.size]? = some (.cells #[.int .i64 0, .int .i64 0, .slice none 0 0, .slice none 0 0, .slice none 0 0, .slice none 0 0] 26)) := ⟨hJ.t, hJ.z⟩
      have HSZ4 : Hid (w.heap.size + 2 ≤ wr.heap.size) := hJ.size
      have HR4 := hide hJ.rd
      have HB4 := hide hJ.but
      have HO3x3 := hide hJ.code
      have HO4x3 := hide hJ.args
      clear hJ hil HTJ
      have HC4 := hide (keys_d (unhide HR4))
      rw [(unhide HE).2.2.2.1] at HC4
      simp only at HC4
      skip
      go_wp2_with fail
      refine (unhide HC4).mono ?_
      rintro e y5 ⟨x4, rfl, r4, p4, q4⟩
      obtain ⟨a5, c5, rfl⟩ := own_shapeN r4
      have hx4 : y5.heap[w.heap.size + 1]? = some (.cells #[.int .i64 n1, .int .i64 n2, .slice a3 l3.length c3, .slice a4 l4.length c4, .slice none 0 0, .slice none 0 0] 26) := q4.same (unhide HX4).1 (by omega)
      have hy4 : y5.heap[w.heap.size]? = some (.cells #[.int .i64 0, .int .i64 0, .slice none 0 0, .slice none 0 0, .slice none 0 0, .slice none 0 0] 26) := q4.same (unhide HX4).2 (by omega)
      have k4 : y5.cell? ⟨w.heap.size + 1, 4, none⟩ = some (.slice none 0 0) := cell_of_heap hx4
      have f4 : ∀ o, y5.frozen? ⟨w.heap.size + 1, o, none⟩ = false := fun o => frozen_of_heap hx4
      have HX5 : Hid ((y5.setCell ⟨w.heap.size + 1, 4, none⟩ (.slice a5 l5.length c5)).heap[w.heap.size + 1]? = some (.cells #[.int .i64 n1, .int .i64 n2, .slice a3 l3.length c3, .slice a4 l4.length c4, .slice a5 l5.length c5, .slice none 0 0] 26) ∧ (y5.setCell ⟨w.heap.size + 1, 4, none⟩ (.slice a5 l5.length c5)).heap[w.heap.size]? = some (.cells #[.int .i64 0, .int .i64 0, .slice none 0 0, .slice none 0 0, .slice none 0 0, .slice none 0 0] 26)) := ⟨setCell_heap hx4, (Below.heap_setCell _ _ _ _ (fun e => by simp only at e; omega)).trans hy4⟩
      have hsz4 := Nat.le_trans (unhide HSZ4) q4.size
      have HSZ5 : Hid (w.heap.size + 2 ≤ (y5.setCell ⟨w.heap.size + 1, 4, none⟩ (.slice a5 l5.length c5)).heap.size) := by show _ ≤ _; simp only [World.setCell, Array.size_modify]; exact hsz4
      have HR5 := hide (p4.other (b := w.heap.size + 1) (by omega) 4 (.slice a5 l5.length c5))
      have HB5 := hide (((unhide HB4).trans q4).new (b := w.heap.size + 1) (by omega) 4 (.slice a5 l5.length c5))
      have HO3x4 := hide (own_setR (own_keepR (unhide HO3x3) q4 (by omega)) (by omega : w.heap.size + 1 < w.heap.size + 2) 4 (.slice a5 l5.length c5))
      have HO4x4 := hide (own_setR (own_keepR (unhide HO4x3) q4 (by omega)) (by omega : w.heap.size + 1 < w.heap.size + 2) 4 (.slice a5 l5.length c5))
      have HO5x4 : Hid ((y5.setCell ⟨w.heap.size + 1, 4, none⟩ (.slice a5 l5.length c5)).ownsRow (w.heap.size + 2) 90 2 (.slice a5 l5.length c5) l5.length (keyCs l5)) := own_setR (own_monoN r4 (unhide HSZ4)) (by omega) 4 _
      have HC5 := hide (keys_d (unhide HR5))
      rw [(unhide HE).2.2.2.2] at HC5
      simp only at HC5
      clear p4 q4 hx4 hy4 hsz4 r4 HC4
      go_wp2_with fail
      refine (unhide HC5).mono ?_
      rintro e y6 ⟨x5, rfl, r5, p5, q5⟩
      obtain ⟨a6, c6, rfl⟩ := own_shapeN r5
      have hx5 : y6.heap[w.heap.size + 1]? = some (.cells #[.int .i64 n1, .int .i64 n2, .slice a3 l3.length c3, .slice a4 l4.length c4, .slice a5 l5.length c5, .slice none 0 0] 26) := q5.same (unhide HX5).1 (by omega)
      have hy5 : y6.heap[w.heap.size]? = some (.cells #[.int .i64 0, .int .i64 0, .slice none 0 0, .slice none 0 0, .slice none 0 0, .slice none 0 0] 26) := q5.same (unhide HX5).2 (by omega)
      have k5 : y6.cell? ⟨w.heap.size + 1, 5, none⟩ = some (.slice none 0 0) := cell_of_heap hx5
      have f5 : ∀ o, y6.frozen? ⟨w.heap.size + 1, o, none⟩ = false := fun o => frozen_of_heap hx5
      have HX6 : Hid ((y6.setCell ⟨w.heap.size + 1, 5, none⟩ (.slice a6 l6.length c6)).heap[w.heap.size + 1]? = some (.cells #[.int .i64 n1, .int .i64 n2, .slice a3 l3.length c3, .slice a4 l4.length c4, .slice a5 l5.length c5, .slice a6 l6.length c6] 26) ∧ (y6.setCell ⟨w.heap.size + 1, 5, none⟩ (.slice a6 l6.length c6)).heap[w.heap.size]? = some (.cells #[.int .i64 0, .int .i64 0, .slice none 0 0, .slice none 0 0, .slice none 0 0, .slice none 0 0] 26)) := ⟨setCell_heap hx5, (Below.heap_setCell _ _ _ _ (fun e => by simp only at e; omega)).trans hy5⟩
      have hsz5 := Nat.le_trans (unhide HSZ5) q5.size
      have HSZ6 : Hid (w.heap.size + 2 ≤ (y6.setCell ⟨w.heap.size + 1, 5, none⟩ (.slice a6 l6.length c6)).heap.size) := by show _ ≤ _; simp only [World.setCell, Array.size_modify]; exact hsz5
      have HR6 := hide (p5.other (b := w.heap.size + 1) (by omega) 5 (.slice a6 l6.length c6))
      have HB6 := hide (((unhide HB5).trans q5).new (b := w.heap.size + 1) (by omega) 5 (.slice a6 l6.length c6))
      have HO3x5 := hide (own_setR (own_keepR (unhide HO3x4) q5 (by omega)) (by omega : w.heap.size + 1 < w.heap.size + 2) 5 (.slice a6 l6.length c6))
      have HO4x5 := hide (own_setR (own_keepR (unhide HO4x4) q5 (by omega)) (by omega : w.heap.size + 1 < w.heap.size + 2) 5 (.slice a6 l6.length c6))
      have HO5x5 := hide (own_setR (own_keepR (unhide HO5x4) q5 (by omega)) (by omega : w.heap.size + 1 < w.heap.size + 2) 5 (.slice a6 l6.length c6))
      have HO6x5 : Hid ((y6.setCell ⟨w.heap.size + 1, 5, none⟩ (.slice a6 l6.length c6)).ownsRow (w.heap.size + 2) 90 2 (.slice a6 l6.length c6) l6.length (keyCs l6)) := own_setR (own_monoN r5 (unhide HSZ5)) (by omega) 5 _
      clear p5 q5 hx5 hy5 hsz5 r5 HC5
      have m0 := unhide HX6
      obtain ⟨y7, hy7⟩ : ∃ y7, (y6.setCell ⟨w.heap.size + 1, 5, none⟩ (.slice a6 l6.length c6)) = y7 := ⟨_, rfl⟩
      rw [hy7] at m0 HR6 HB6 HO3x5 HO4x5 HO5x5 HO6x5
      have t0 : y7.cell? ⟨w.heap.size + 1, 0, none⟩ = some (.int .i64 n1) := cell_of_heap m0.1
      have t1 : y7.cell? ⟨w.heap.size + 1, 1, none⟩ = some (.int .i64 n2) := cell_of_heap m0.1
      have t2 : y7.cell? ⟨w.heap.size + 1, 2, none⟩ = some (.slice a3 l3.length c3) := cell_of_heap m0.1
      have t3 : y7.cell? ⟨w.heap.size + 1, 3, none⟩ = some (.slice a4 l4.length c4) := cell_of_heap m0.1
      have t4 : y7.cell? ⟨w.heap.size + 1, 4, none⟩ = some (.slice a5 l5.length c5) := cell_of_heap m0.1
      have t5 : y7.cell? ⟨w.heap.size + 1, 5, none⟩ = some (.slice a6 l6.length c6) := cell_of_heap m0.1
      have z0 : y7.cell? ⟨w.heap.size, 0, none⟩ = some (.int .i64 0) := cell_of_heap m0.2
      have z1 : y7.cell? ⟨w.heap.size, 1, none⟩ = some (.int .i64 0) := cell_of_heap m0.2
      have z2 : y7.cell? ⟨w.heap.size, 2, none⟩ = some (.slice none 0 0) := cell_of_heap m0.2
      have z3 : y7.cell? ⟨w.heap.size, 3, none⟩ = some (.slice none 0 0) := cell_of_heap m0.2
      have z4 : y7.cell? ⟨w.heap.size, 4, none⟩ = some (.slice none 0 0) := cell_of_heap m0.2
      have z5 : y7.cell? ⟨w.heap.size, 5, none⟩ = some (.slice none 0 0) := cell_of_heap m0.2
      have fz7 : ∀ o, y7.frozen? ⟨w.heap.size, o, none⟩ = false := fun o => frozen_of_heap m0.2
      have M0 := hide m0
      clear m0
      go_wp2_with fail
      refine bodyPost_ret (results_cell_row rfl _ _ w.heap.size 26 #[.int .i64 n1, .int .i64 n2, .slice a3 l3.length c3, .slice a4 l4.length c4, .slice a5 l5.length c5, .slice a6 l6.length c6] (0, 0) _ rfl (setCell_heap (setCell_heap (setCell_heap (setCell_heap (setCell_heap (setCell_heap (unhide M0).2)))))) Tryz.underlying26 rfl (by kernel_rfl)) rfl ?_
      refine ⟨_, rfl, ⟨_, _, _, _, rfl, ?_, ?_, ?_, ?_⟩, (((((((unhide HR6).other hr _ _).other hr _ _).other hr _ _).other hr _ _).other hr _ _).other hr _ _), (((((((unhide HB6).new (Nat.le_refl _) _ _).new (Nat.le_refl _) _ _).new (Nat.le_refl _) _ _).new (Nat.le_refl _) _ _).new (Nat.le_refl _) _ _).new (Nat.le_refl _) _ _)⟩
      · exact own_monoN (own_setR (own_setR (own_setR (own_setR (own_setR (own_setR (unhide HO3x5) (by omega) _ _) (by omega) _ _) (by omega) _ _) (by omega) _ _) (by omega) _ _) (by omega) _ _) (by omega)
      · exact own_monoN (own_setR (own_setR (own_setR (own_setR (own_setR (own_setR (unhide HO4x5) (by omega) _ _) (by omega) _ _) (by omega) _ _) (by omega) _ _) (by omega) _ _) (by omega) _ _) (by omega)
      · exact own_monoN (own_setR (own_setR (own_setR (own_setR (own_setR (own_setR (unhide HO5x5) (by omega) _ _) (by omega) _ _) (by omega) _ _) (by omega) _ _) (by omega) _ _) (by omega) _ _) (by omega)
      · exact own_monoN (own_setR (own_setR (own_setR (own_setR (own_setR (own_setR (unhide HO6x5) (by omega) _ _) (by omega) _ _) (by omega) _ _) (by omega) _ _) (by omega) _ _) (by omega) _ _) (by omega)
end Go.Proofs.YtggllgimlfchhaaGreat
