/- Checkpoints: a half is written: the walk. -/
import Derived.Test.YtiijbklaapaheaaKC
namespace Go.Proofs.Ytiijbklaapaheaa
open Go.RowKit Go.Shelf
set_option maxRecDepth 100000
attribute [local go_sem] Oper.semAt_some

set_option maxHeartbeats 4000000 in
theorem write_any {w : World} {g h cap : Nat} {F : Fl} (H : IsFl w g h cap F) (hc0 : 0 ≤ F.cnt) (hm : F.cnt ≤ 9223372036854775807) (f n : Nat) (hf : f ≤ 1099511627776) (hn : n ≤ 1099511627776)
    (gb cp : Nat) (zs : List Int) (hz : ∀ t, t < zs.length → w.cell? ⟨gb, t, none⟩ = some (.int .u8 (zs.getD t 0))) (hcp : zs.length ≤ cp) (hby : Byt zs) (hl : zs.length ≤ 1048576) (hbg : gb ≠ g) (hbh : gb ≠ h) (hgb : gb < w.heap.size) :
    Calls Try.prog 46 #[halfV h f n, .slice (some ⟨gb, 0, none⟩) zs.length cp] w fun e w' => e = .returned (.int .i64 (wrtH F f n zs).1) ∧ IsFl w' g h cap (wrtH F f n zs).2 ∧ Upd (Two g h) w.heap.size w w' := by
  obtain ⟨B, hB⟩ : ∃ B, (w.alloc (.cells #[P0 h, .int .i64 f, .int .i64 n] 78)).alloc (.cells #[.int .i64 0] 27) = B := ⟨_, rfl⟩
  have HAL : Hid (Below w.heap.size w B) := hB ▸ ((Below.refl _ _).alloc (Nat.le_refl _) _).alloc (by simp) _
  have HSZ : Hid (B.heap.size = w.heap.size + 2) := by rw [← hB]; simp [hide]
  have hg := H.glt; have hh := H.hlt
  have HBB : Hid (B.cell? ⟨w.heap.size, 0, none⟩ = some (P0 h) ∧ B.cell? ⟨w.heap.size, 1, none⟩ = some (.int .i64 f) ∧ B.cell? ⟨w.heap.size, 2, none⟩ = some (.int .i64 n) ∧ B.cell? ⟨w.heap.size + 1, 0, none⟩ = some (.int .i64 0) ∧ B.frozen? ⟨w.heap.size + 1, 0, none⟩ = false) := by
    rw [← hB]
    refine ⟨?_, ?_, ?_, ?_, ?_⟩ <;> simp [go_sem, World.cell?_alloc_old]
  have HI := hide (H.below (unhide HAL))
  refine (callsIn_wide (n := 3)).1 ?_
  refine callsIn_of_wp_marks Try.func46 rfl trivial ?_ rfl
  simp only [Try.ntmps46, List.size_toArray, List.length_cons, List.length_nil, Nat.reduceAdd, Nat.reduceSub, Array.replicate_succ, Array.replicate_zero, List.push_toArray, List.append_toArray, List.nil_append, List.cons_append]
  have HCL := hide (clear_any (unhide HI) hc0 hm f n hf hn)
  have HCN := hide (clr_cnt n F f hc0 hm)
  unfold wrtH
  generalize clr F f n = C at HCL HCN ⊢
  obtain ⟨ce, G0⟩ := C
  simp only at HCL HCN ⊢
  obtain ⟨q0, q1, q2, q3, q4⟩ := unhide HBB
  clear H
  have HX : Hid (∀ x, Upd (Two g h) B.heap.size B x → x.cell? ⟨w.heap.size, 0, none⟩ = some (P0 h) ∧ x.cell? ⟨w.heap.size, 1, none⟩ = some (.int .i64 f) ∧ x.cell? ⟨w.heap.size, 2, none⟩ = some (.int .i64 n) ∧ x.cell? ⟨w.heap.size + 1, 0, none⟩ = some (.int .i64 0) ∧ x.frozen? ⟨w.heap.size + 1, 0, none⟩ = false) := by
    intro x hx
    have hs := unhide HSZ
    have hn0 : ¬ Two g h w.heap.size := by show ¬ (w.heap.size = g ∨ w.heap.size = h); omega
    have hn1 : ¬ Two g h (w.heap.size + 1) := by show ¬ (w.heap.size + 1 = g ∨ w.heap.size + 1 = h); omega
    refine ⟨?_, ?_, ?_, ?_, ?_⟩
    · rw [hx.cell (p := ⟨w.heap.size, 0, none⟩) (by show w.heap.size < _; omega) hn0]; exact q0
    · rw [hx.cell (p := ⟨w.heap.size, 1, none⟩) (by show w.heap.size < _; omega) hn0]; exact q1
    · rw [hx.cell (p := ⟨w.heap.size, 2, none⟩) (by show w.heap.size < _; omega) hn0]; exact q2
    · rw [hx.cell (p := ⟨w.heap.size + 1, 0, none⟩) (by show w.heap.size + 1 < _; omega) hn1]; exact q3
    · rw [hx.frozen (p := ⟨w.heap.size + 1, 0, none⟩) (by show w.heap.size + 1 < _; omega) hn1]; exact q4
  by_cases c0 : ce = 0
  · subst c0
    rw [if_neg (by simp)]
    gi_wp2_with (rw [hB])
    refine ⟨trivial, ((callsIn_wide (n := 2)).2 (unhide HCL)).mono ?_⟩
    rintro e w1 ⟨rfl, i1, u1⟩
    clear q0 q1 q2 q3 q4
    obtain ⟨q0, q1, q2, q3, q4⟩ := unhide HX w1 u1
    have HI1 := hide i1
    have HU1 := hide u1
    clear i1 u1
    gi_wp2_with fail
    refine ⟨trivial, ((callsIn_wide (n := 2)).2 (chunk_fn (some ⟨gb, 0, none⟩) zs.length cp)).mono ?_⟩
    rintro e w2 ⟨rfl, hw2⟩
    simp only [World.size_alloc] at hw2 ⊢
    have HW2 : Hid (Below w1.heap.size w1 w2) := by rw [hw2]; exact ((((Below.refl _ _).alloc (Nat.le_refl _) _).alloc (by simp) _).alloc (by simp; omega) _)
    have HS2 : Hid (w2.heap.size = w1.heap.size + 3) := by rw [hw2]; simp [hide]
    have HC2 : Hid (w2.cell? ⟨w1.heap.size, 0, none⟩ = some (.int .i64 0) ∧ w2.frozen? ⟨w1.heap.size, 0, none⟩ = false ∧ w2.cell? ⟨w1.heap.size + 1, 0, none⟩ = some (.slice (some ⟨gb, 0, none⟩) zs.length cp) ∧ w2.cell? ⟨w1.heap.size + 2, 0, none⟩ = some (.int .i64 256)) := by
      rw [hw2]
      refine ⟨?_, ?_, ?_, ?_⟩ <;> simp [go_sem, World.cell?_alloc_old]
    clear hw2
    have hs1 := (unhide HU1).size
    have hsB := unhide HSZ
    have hs2 := unhide HS2
    have HBX : Hid (∀ x, Upd (Four g h w1.heap.size (w.heap.size + 1)) w2.heap.size w2 x → (x.cell? ⟨w.heap.size, 0, none⟩ = some (P0 h) ∧ x.cell? ⟨w.heap.size, 1, none⟩ = some (.int .i64 f) ∧ x.cell? ⟨w.heap.size, 2, none⟩ = some (.int .i64 n)) ∧ ∀ t, t < zs.length → x.cell? ⟨gb, t, none⟩ = some (.int .u8 (zs.getD t 0))) := by
      intro x hx
      have hne : ¬ Four g h w1.heap.size (w.heap.size + 1) w.heap.size := by show ¬ (_ = _ ∨ _ = _ ∨ _ = _ ∨ _ = _); omega
      have hnb : ¬ Four g h w1.heap.size (w.heap.size + 1) gb := by show ¬ (_ = _ ∨ _ = _ ∨ _ = _ ∨ _ = _); omega
      have hnt : ¬ Two g h gb := by show ¬ (_ = _ ∨ _ = _); omega
      have hz2 := unhide HW2
      refine ⟨⟨?_, ?_, ?_⟩, fun t ht => ?_⟩
      · rw [hx.cell (p := ⟨w.heap.size, 0, none⟩) (by show w.heap.size < _; omega) hne, hz2.cell (p := ⟨w.heap.size, 0, none⟩) (by show w.heap.size < _; omega)]; exact q0
      · rw [hx.cell (p := ⟨w.heap.size, 1, none⟩) (by show w.heap.size < _; omega) hne, hz2.cell (p := ⟨w.heap.size, 1, none⟩) (by show w.heap.size < _; omega)]; exact q1
      · rw [hx.cell (p := ⟨w.heap.size, 2, none⟩) (by show w.heap.size < _; omega) hne, hz2.cell (p := ⟨w.heap.size, 2, none⟩) (by show w.heap.size < _; omega)]; exact q2
      · rw [hx.cell (p := ⟨gb, t, none⟩) (by show gb < _; omega) hnb, hz2.cell (p := ⟨gb, t, none⟩) (by show gb < _; omega), (unhide HU1).cell (p := ⟨gb, t, none⟩) (by show gb < _; omega) hnt, (unhide HAL).cell (p := ⟨gb, t, none⟩) hgb]; exact hz t ht
    have HR2 : Hid (w2.cell? ⟨w.heap.size + 1, 0, none⟩ = some (.int .i64 0) ∧ w2.frozen? ⟨w.heap.size + 1, 0, none⟩ = false) := by
      refine ⟨((unhide HW2).cell (p := ⟨w.heap.size + 1, 0, none⟩) (by show w.heap.size + 1 < _; omega)).trans q3, ?_⟩
      rw [World.frozen?_of_block (w := w1) ((unhide HW2).block (w.heap.size + 1) (by omega))]; exact q4
    have HG2 := hide ((unhide HI1).below (unhide HW2))
    obtain ⟨m0, m1, m2⟩ := unhide HCN
    clear q0 q1 q2 q3 q4
    have hEN : ∀ x, Upd (Four g h w1.heap.size (w.heap.size + 1)) w2.heap.size w2 x → Upd (Two g h) w.heap.size w x := by
      intro x hx
      have hsA := (unhide HAL).size
      refine (Upd.of (unhide HAL)).trans (((unhide HU1).less hsA).trans ((Upd.of ((unhide HW2).mono (by omega))).trans (hx.mono (by omega) fun k hk hs => ?_)))
      rcases hs with c | c | c | c
      · exact Or.inl c
      · exact Or.inr c
      · exact absurd c (by omega)
      · exact absurd c (by omega)
    gi_wp2
    refine wpIn_rangeFunc_ownF rfl (by decide) (gf := 95) (lb := #[.pointer (some ⟨w1.heap.size + 1, 0, none⟩), .pointer (some ⟨w1.heap.size + 1 + 1, 0, none⟩)]) rfl trivial (enters_of Try.func95 (by kernel_rfl) rfl)
      (chunk_stops Fence.wide 2 trivial rfl (by decide) (w1.heap.size + 1) (w1.heap.size + 1 + 1) gb zs.length cp hcp hl w2 (by omega) (by omega) (unhide HC2).2.2.1 (unhide HC2).2.2.2) KT.trans (KT.putObj (by omega) (by omega)) (Below.refl _ _) (fun _ => rfl)
      (WI g h cap w1.heap.size (w.heap.size + 1) f zs G0 w2) (WX g h cap w1.heap.size (w.heap.size + 1) f zs G0 w2) (WI.own (by omega) (by omega) (by omega) (by omega)) (fun c => WX.own (by omega) (by omega) (by omega) c)
      ⟨⟨G0, unhide HG2, m0, m1, fun rest => rfl⟩, (unhide HC2).1, (unhide HC2).2.1, (unhide HR2).2, ⟨_, (unhide HR2).1⟩, Upd.refl _ _ _⟩
      (fun x => { tmps := #[halfV h f n, .slice (some ⟨gb, 0, none⟩) zs.length cp, .pointer (some ⟨w.heap.size, 0, none⟩), undef, .pointer (some ⟨w.heap.size + 1, 0, none⟩), .int .i64 0, .pointer (some ⟨w1.heap.size, 0, none⟩), chV gb zs.length x, undef, undef, undef,
          .agg #[P0 h, .int .i64 f, .int .i64 n], .int .i64 0, .int .i64 0, .bool false, undef, .slice (some ⟨gb, 0, none⟩) zs.length cp, .func (.func 95) #[] #[.pointer (some ⟨w1.heap.size + 1, 0, none⟩), .pointer (some ⟨w1.heap.size + 1 + 1, 0, none⟩)], chV gb zs.length x, undef, undef, undef, undef, undef, undef, undef, undef, undef, undef, undef, undef, undef, undef, undef, undef, undef], defers := [] }) ?assign ?body ?done ?stop
    case assign =>
      intro l x W K hK
      gi_wp2
      simpa using hK
    case body =>
      rintro l pre x W ⟨⟨G, iG, g0, g1, eG⟩, k1, k2, k3, ⟨u, k4⟩, hU⟩ hlen
      obtain ⟨⟨b0, b1, b2⟩, hzz⟩ := unhide HBX W hU
      have hpl : pre.length ≤ 1099511627776 := by unfold chN at hlen; omega
      have HPG := hide (page_any h f pre.length n W hf hpl)
      have HU := hide hU
      have HIG := hide iG
      have HEG := hide eG
      have HK := hide (And.intro k1 (And.intro k2 (And.intro k3 k4)))
      clear hU iG eG hzz k4
      gi_wp2_with fail
      refine ⟨trivial, (((callsIn_wide (n := 0)).2 (unhide HPG)).inRound l).mono ?_⟩
      rintro e W3 ⟨rfl, hb3⟩
      have HU3 := hide ((unhide HU).trans ((Upd.of (S := Four g h w1.heap.size (w.heap.size + 1)) hb3).less (unhide HU).size))
      obtain ⟨⟨b0', b1', b2'⟩, hzz⟩ := unhide HBX W3 (unhide HU3)
      have HPR := hide (prog_all ((unhide HIG).below hb3) g0 g1 ((f + pre.length / 16 : Nat) : Int) ((pre.length % 16 : Nat) : Int) (chV gb zs.length x) (ch zs x) (ch_sees hzz x) (ch_byt hby x))
      obtain ⟨c1, c2, c3⟩ := prog_cnt G ((f + pre.length / 16 : Nat) : Int) ((pre.length % 16 : Nat) : Int) (ch zs x) g0 g1 |>.elim fun a b => And.intro a (And.intro b (rfl : (0 : Nat) = 0))
      have HST : Hid (∀ rest, wrt G0 f 0 ((pre ++ [x]).map (ch zs) ++ rest) = if (G.prog ((f + pre.length / 16 : Nat) : Int) ((pre.length % 16 : Nat) : Int) (ch zs x)).1 ≠ 0 then G.prog ((f + pre.length / 16 : Nat) : Int) ((pre.length % 16 : Nat) : Int) (ch zs x) else wrt (G.prog ((f + pre.length / 16 : Nat) : Int) ((pre.length % 16 : Nat) : Int) (ch zs x)).2 f (pre.length + 1) rest) := by
        intro rest
        rw [List.map_append, List.append_assoc]
        rw [unhide HEG]
        rfl
      have HKO3 : Hid (KeepsOthers W W3) := ⟨hb3.size, fun k o ho _ => (hb3.block k (Array.getElem?_eq_some_iff.1 ho).1).trans ho⟩
      have HKT3 : Hid (Upd (Four g h w1.heap.size (w.heap.size + 1)) w2.heap.size W W3) := (Upd.of hb3).less (unhide HU).size
      have HI3 := hide ((unhide HIG).below hb3)
      have HK3 : Hid (W3.cell? ⟨w1.heap.size, 0, none⟩ = some (.int .i64 pre.length) ∧ W3.frozen? ⟨w1.heap.size, 0, none⟩ = false ∧ W3.frozen? ⟨w.heap.size + 1, 0, none⟩ = false ∧ W3.cell? ⟨w.heap.size + 1, 0, none⟩ = some u) := by
        have hs := (unhide HU).size
        obtain ⟨e1, e2, e3, e4⟩ := unhide HK
        refine ⟨(hb3.cell (p := ⟨w1.heap.size, 0, none⟩) (by show w1.heap.size < _; omega)).trans e1, ?_, ?_, (hb3.cell (p := ⟨w.heap.size + 1, 0, none⟩) (by show w.heap.size + 1 < _; omega)).trans e4⟩
        · rw [World.frozen?_of_block (w := W) (hb3.block w1.heap.size (by omega))]; exact e2
        · rw [World.frozen?_of_block (w := W) (hb3.block (w.heap.size + 1) (by omega))]; exact e3
      clear hb3 hzz c3
      generalize G.prog ((f + pre.length / 16 : Nat) : Int) ((pre.length % 16 : Nat) : Int) (ch zs x) = R at HPR c1 c2 HST
      obtain ⟨er, G2⟩ := R
      simp only at HPR c1 c2 HST
      have HFIN : Hid (∀ W4, Upd (Two g h) W3.heap.size W3 W4 → Upd (Four g h w1.heap.size (w.heap.size + 1)) w2.heap.size W W4 ∧ KeepsOthers W W4 ∧ W4.cell? ⟨w1.heap.size, 0, none⟩ = some (.int .i64 pre.length) ∧ W4.frozen? ⟨w1.heap.size, 0, none⟩ = false ∧ W4.frozen? ⟨w.heap.size + 1, 0, none⟩ = false ∧ W4.cell? ⟨w.heap.size + 1, 0, none⟩ = some u) := by
        intro W4 u4
        have hs := (unhide HU3).size
        obtain ⟨e1, e2, e3, e4⟩ := unhide HK3
        have n1 : ¬ Two g h w1.heap.size := by show ¬ (_ = _ ∨ _ = _); omega
        have n2 : ¬ Two g h (w.heap.size + 1) := by show ¬ (_ = _ ∨ _ = _); omega
        refine ⟨(unhide HKT3).trans (u4.mono hs fun k _ hk => hk.elim Or.inl fun c => Or.inr (Or.inl c)), (unhide HKO3).trans (upd_others (unhide HI3) u4 (Nat.le_refl _)), (u4.cell (p := ⟨w1.heap.size, 0, none⟩) (by show w1.heap.size < _; omega) n1).trans e1, (u4.frozen (p := ⟨w1.heap.size, 0, none⟩) (by show w1.heap.size < _; omega) n1).trans e2, (u4.frozen (p := ⟨w.heap.size + 1, 0, none⟩) (by show w.heap.size + 1 < _; omega) n2).trans e3, (u4.cell (p := ⟨w.heap.size + 1, 0, none⟩) (by show w.heap.size + 1 < _; omega) n2).trans e4⟩
      by_cases ce : er = 0
      · subst ce
        clear b0 b1 b2 k1 k2 k3
        gi_wp2_with fail
        refine ⟨trivial, (((callsIn_wide (n := 0)).2 (unhide HPR)).inRound l).mono ?_⟩
        rintro e W4 ⟨rfl, i4, u4⟩
        obtain ⟨v1, v2, v3, v4, v5, v6⟩ := unhide HFIN W4 u4
        have HI4 := hide i4
        have HV := hide (And.intro v1 (And.intro v2 (And.intro v5 v6)))
        clear i4 u4 v1 v2 v5 v6 b0' b1' b2'
        gi_wp2
        obtain ⟨v1, v2, v5, v6⟩ := unhide HV
        have hUW := v1.setCell (p := ⟨w1.heap.size, 0, none⟩) (Or.inl (Or.inr (Or.inr (Or.inl rfl)))) (.int .i64 ((pre.length : Int) + 1))
        have hsW := (unhide HU).size
        have hdif : (⟨w1.heap.size, 0, none⟩ : Addr) ≠ ⟨w.heap.size + 1, 0, none⟩ := addr_ne (Or.inl (by omega))
        refine ⟨v2.trans (KeepsOthers.setCell _ _ _), ⟨hUW.block (w1.heap.size + 1) (by omega) (by show ¬ (_ = _ ∨ _ = _ ∨ _ = _ ∨ _ = _); omega), hUW.block (w1.heap.size + 1 + 1) (by omega) (by show ¬ (_ = _ ∨ _ = _ ∨ _ = _ ∨ _ = _); omega)⟩, ⟨⟨G2, (unhide HI4).other _ _ _ (by omega) (by omega), c1, c2, fun rest => ?_⟩, ?_, ?_, ?_, ⟨u, ?_⟩, (unhide HU).trans hUW⟩⟩
        · rw [List.length_append]; exact (unhide HST rest).trans (if_neg (by simp))
        · rw [cs_same v3, List.length_append]; rfl
        · rw [World.frozen?_setCell]; exact v4
        · rw [World.frozen?_setCell]; exact v5
        · rw [cs_other hdif]; exact v6
      · have ce' : (er != 0) = true := by simpa using ce
        clear b0 b1 b2 k1 k2 k3
        gi_wp2_with fail
        refine ⟨trivial, (((callsIn_wide (n := 0)).2 (unhide HPR)).inRound l).mono ?_⟩
        rintro e W4 ⟨rfl, i4, u4⟩
        obtain ⟨v1, v2, v3, v4, v5, v6⟩ := unhide HFIN W4 u4
        have HI4 := hide i4
        have HV := hide (And.intro v1 v2)
        clear i4 u4 v1 v2 b0' b1' b2'
        gi_wp2
        obtain ⟨v1, v2⟩ := unhide HV
        have hUW := v1.setCell (p := ⟨w.heap.size + 1, 0, none⟩) (Or.inl (Or.inr (Or.inr (Or.inr rfl)))) (.int .i64 er)
        exact ⟨v2.trans (KeepsOthers.setCell _ _ _), rfl, G2, er, ce, (unhide HI4).other _ _ _ (by omega) (by omega), cs_same v6, fun rest => (unhide HST rest).trans (if_pos ce), (unhide HU).trans hUW⟩
    case done =>
      rintro D ys W hD rfl ⟨⟨G, iG, g0, g1, eG⟩, k1, k2, k3, ⟨u, k4⟩, hU⟩ hK
      have hDr : D ≠ w.heap.size + 1 := by omega
      have e0 := eG []
      rw [List.append_nil] at e0
      have hk0 : (W.setCell ⟨w.heap.size + 1, 0, none⟩ (.int .i64 0)).heap[D]? = some (.deferred (some [])) := (Below.heap_setCell _ _ _ _ hDr).trans hK
      have hc0 := cs_same (v := .int .i64 0) k4
      have hi0 := iG.other (w.heap.size + 1) 0 (.int .i64 0) (by omega) (by omega)
      have hu0 := hU.setCell (p := ⟨w.heap.size + 1, 0, none⟩) (Or.inl (Or.inr (Or.inr (Or.inr rfl)))) (.int .i64 0)
      have HE0 := hide e0
      have HHi := hide hi0
      have HHu := hide hu0
      have HEN := hide hEN
      clear iG eG hU e0 hi0 hu0
      gi_wp2
      rw [unhide HE0]
      obtain ⟨X, hX⟩ : ∃ X, W.setCell ⟨w.heap.size + 1, 0, none⟩ (.int .i64 0) = X := ⟨_, rfl⟩
      rw [hX] at hk0 hc0 HHi HHu ⊢
      refine ⟨by simp, .inl ⟨_, _, rfl, run_takeDeferred hk0, ?_⟩⟩
      have hbF := belowK_b (w := w2) (Nat.le_refl _) X D _ (.deferred none) hD hk0 rfl rfl
      have kk := (hbF.cell (p := ⟨w.heap.size + 1, 0, none⟩) (by show w.heap.size + 1 < _; omega)).trans hc0
      refine ⟨.int .i64 0, ?_, rfl, (unhide HHi).keepB (hbF.block g (by omega)) (hbF.block h (by omega)), unhide HEN _ ((unhide HHu).trans (Upd.of hbF))⟩
      simp [results, Try.results46, go_sem, kk]
    case stop =>
      rintro D c pre W hD ⟨k, hk, rfl⟩ ⟨rfl, G, er, he, iG, k1, eG, hU⟩ hK
      obtain ⟨rest, hre⟩ : ∃ rest, List.range (chN zs.length) = List.range (k + 1) ++ rest := by
        refine ⟨(List.range (chN zs.length)).drop (k + 1), ?_⟩
        have := List.take_append_drop (k + 1) (List.range (chN zs.length))
        rw [List.take_range, Nat.min_eq_left (by omega)] at this
        exact this.symm
      have e0 : wrt G0 f 0 ((List.range (chN zs.length)).map (ch zs)) = (er, G) := by rw [hre, List.map_append]; exact eG _
      have HE0 := hide e0
      have HHi := hide iG
      have HHu := hide hU
      have HEN := hide hEN
      clear iG eG hU e0 hre
      gi_wp2
      rw [unhide HE0]
      refine ⟨by simp, .inl ⟨_, _, rfl, run_takeDeferred hK, ?_⟩⟩
      have hbF := belowK_b (w := w2) (Nat.le_refl _) W D _ (.deferred none) hD hK rfl rfl
      have kk := (hbF.cell (p := ⟨w.heap.size + 1, 0, none⟩) (by show w.heap.size + 1 < _; omega)).trans k1
      refine ⟨.int .i64 er, ?_, rfl, (unhide HHi).keepB (hbF.block g (by omega)) (hbF.block h (by omega)), unhide HEN _ ((unhide HHu).trans (Upd.of hbF))⟩
      simp [results, Try.results46, go_sem, kk]
  · rw [if_pos c0]
    have c0' : (ce != 0) = true := by simpa using c0
    gi_wp2_with (rw [hB])
    refine ⟨trivial, ((callsIn_wide (n := 2)).2 (unhide HCL)).mono ?_⟩
    rintro e w1 ⟨rfl, i1, u1⟩
    clear q0 q1 q2 q3 q4
    obtain ⟨q0, q1, q2, q3, q4⟩ := unhide HX w1 u1
    have HI1 := hide i1
    have HU1 := hide u1
    clear i1 u1
    gi_wp2
    have k := cs_same (v := .int .i64 ce) q3
    refine ⟨.int .i64 ce, by simp [results, Try.results46, go_sem, k], rfl, (unhide HI1).other _ _ _ (by omega) (by omega), (Upd.of (unhide HAL)).trans (((unhide HU1).less (unhide HAL).size).setCell (Or.inr (Nat.le_succ _)) _)⟩
end Go.Proofs.Ytiijbklaapaheaa
