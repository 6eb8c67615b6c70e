/- CodeBack's walk. -/
import Derived.Test.YtknpfippdddnhaaDoorQ4
namespace Go.Proofs.YtknpfippdddnhaaDoor
open Go.RowKit Go.Shelf
attribute [local go_sem] Oper.semAt_some
set_option maxRecDepth 100000

abbrev P (b : Nat) : Value := .pointer (some ⟨b, 0, none⟩)
/-- Where the range of CodeBack stands. -/
def BkI (ab nb B : Nat) (L : List Ins) (W2 : World) (pre : List Ins) (W : World) : Prop := (W.heap[ab]? = some (.cells #[.int .i64 (lenB (L.take pre.length) : Nat)] 3) ∧ W.heap[nb]? = some (.cells #[.int .i64 (pre.length : Nat)] 3)) ∧ Upd (fun k => k = ab ∨ k = nb) B W2 W
theorem bkI_own (ab nb B : Nat) (L : List Ins) (W2 : World) (hB : B ≤ W2.heap.size) : OwnFrom B (BkI ab nb B L W2) :=
  OwnFrom.and (OwnFrom.and (ownFrom_cells B ab (fun pre : List Ins => #[.int .i64 (lenB (L.take pre.length) : Nat)]) 3) (ownFrom_cells B nb (fun pre : List Ins => #[.int .i64 (pre.length : Nat)]) 3)) (ownFrom_upd hB)
/-- A result of true in its box, with nothing left behind. -/
theorem ret_box {n rb B : Nat} {f : Func} {tmps : Array Value} {w W : World} (hf : f.results = #[.cell 4 4]) (ht : tmps[4]? = some (P rb)) (hB : Below B w W) (hrb : B ≤ rb) (kr : W.heap[rb]? = some (.cells #[.bool false] 4)) (ds : List Deferred) (hM : Marks ds W) (hd : ∀ k, isMark ds k → B ≤ k ∧ k ≠ rb) :
    LeavesInM Fence.wide n Tryd.prog f tmps (fun e w' => e = .returned (.bool true) ∧ Below B w w') ds .returning (W.setCell ⟨rb, 0, none⟩ (.bool true)) := by
  have hr9 : (W.setCell ⟨rb, 0, none⟩ (.bool true)).heap[rb]? = some (.cells #[.bool true] 4) := one_setCell kr
  have hMk : Marks ds (W.setCell ⟨rb, 0, none⟩ (.bool true)) := hM.keep fun k hk => Below.heap_setCell _ _ _ _ (by have := (hd k hk).2; exact this)
  refine leave_marks (w := W.setCell ⟨rb, 0, none⟩ (.bool true)) hMk fun w' hw => ?_
  have hlt := (Array.getElem?_eq_some_iff.1 hr9).1
  have hc9 : w'.cell? ⟨rb, 0, none⟩ = some (.bool true) := cell_at ((hw.block rb hlt fun c => (hd _ c).2 rfl).trans hr9)
  have hb9 : Below B w (W.setCell ⟨rb, 0, none⟩ (.bool true)) := hB.setCell (p := ⟨rb, 0, none⟩) hrb _
  refine ⟨.bool true, ?_, rfl, hb9.trans ⟨hw.os, hw.tape, hw.output, hw.size, fun k hk => hw.block k (by omega) fun c => by have := (hd k c).1; omega⟩⟩
  simp [results, hf, go_sem, ht, hc9]
theorem res6 : Tryd.f6.results = #[.cell 4 4] := rfl
set_option maxHeartbeats 6400000 in
theorem back_walk {w : World} {v u : Value} {l : List Int} {L : List Ins} (hT : Tab w) (hs : SeesL yC 1 w v l) (hby : Byt l) (hu : SeesL iC 5 w u L) (hok : OkI L) (hm : L.length ≤ 3518437208883) : Calls Tryd.prog 6 #[v, u] w fun e w' => RwR w e w' := by
  obtain ⟨n0, hn0⟩ : ∃ x, w.heap.size = x := ⟨_, rfl⟩
  obtain ⟨rb, hrb⟩ : ∃ x, n0 + 1 = x := ⟨_, rfl⟩
  obtain ⟨W0, hW0⟩ : ∃ W, (w.alloc (.cells #[u] 23)).alloc (.cells #[.bool false] 4) = W := ⟨_, rfl⟩
  have hb0 : Below n0 w W0 := by rw [← hW0, ← hn0]; exact ((Below.refl _ _).alloc (Nat.le_refl _) _).alloc (by simp) _
  have hs0 : W0.heap.size = rb + 1 := by rw [← hW0, ← hrb, ← hn0]; simp
  have kl : W0.heap[n0]? = some (.cells #[u] 23) := by rw [← hW0, Below.heap_alloc _ _ _ (by simp; omega), ← hn0]; exact heap_alloc_new w _
  have kr : W0.heap[rb]? = some (.cells #[.bool false] 4) := by rw [← hW0, ← hrb, ← hn0]; have := heap_alloc_new (w.alloc (.cells #[u] 23)) (.cells #[.bool false] 4); rwa [World.size_alloc] at this
  have HT : Hid (∀ z, Below n0 w z → Tab z) := fun z hb => hT.below hb (by rw [← hn0]; exact hT.pos)
  have HD : Hid (∀ z, Below n0 w z → Calls Tryd.prog 9 #[v] z _) := fun z hb => decode_any (unhide HT z hb) (hs.below yC_len (by rw [hn0]; exact hb)) hby
  have HE : Hid (∀ z, Below n0 w z → Calls Tryd.prog 23 #[u] z _) := fun z hb => encode_any (unhide HT z hb) (hu.below iC_len (by rw [hn0]; exact hb)) hok hm
  have HEQ : Hid (∀ z x, Below n0 w z → SeesL yC 1 z x l → Calls Tryd.prog 27 #[x, v] z fun e w' => e = .returned (.bool true) ∧ z = w') := fun z x hb hx => by
    have := equal_any hx (hs.below yC_len (by rw [hn0]; exact hb)) hby hby
    rw [decide_eq_true rfl] at this
    exact this
  have HZ : Hid (∀ z, Below W0.heap.size W0 z → Below n0 w z) := fun z hb => hb0.trans (hb.mono (by omega))
  have HK : Hid (∀ z, Below W0.heap.size W0 z → z.heap[n0]? = some (.cells #[u] 23) ∧ z.heap[rb]? = some (.cells #[.bool false] 4) ∧ rb < z.heap.size) := fun z hb => ⟨(hb.block _ (by omega)).trans kl, (hb.block _ (by omega)).trans kr, by have := hb.size; omega⟩
  have HU : Hid (∀ z, Below n0 w z → SeesL iC 5 z u L) := fun z hb => hu.below iC_len (by rw [hn0]; exact hb)
  obtain ⟨ua, uc, rfl⟩ := hu.shape
  obtain ⟨va, vc, rfl⟩ := hs.shape
  have hpos : 0 < n0 := by rw [← hn0]; exact hT.pos
  unfold RwR
  rw [hn0]
  have HW0 := hide hW0
  have HDOK := hide (fun h : (dec l).2 = 0 => dec_okI hby h)
  have HDE := hide (fun h : (dec l).2 = 0 => dec_enc hby h)
  clear kl kr hW0 hs hu hT hby
  obtain ⟨n, hn⟩ : ∃ n, l.length = n := ⟨_, rfl⟩
  obtain ⟨m, hLm⟩ : ∃ m, L.length = m := ⟨_, rfl⟩
  rw [hn] at HD HEQ ⊢
  rw [hLm] at HE HK HU HW0 hm ⊢
  have HLM := hide hLm
  clear hn hLm
  by_cases hd : (dec l).2 = 0 <;> by_cases he : (enc L).2 = 0
  · skip
    have HDL := hide (unhide HDOK hd)
    have HDEE := hide (unhide HDE hd)
    rw [hd] at HD
    have HEK := hide (enc_ok he)
    have HWK := hide (enc_wk he)
    have HEBY := hide (enc_bytes L)
    rw [he] at HE
    clear hd he HDOK HDE
    refine (callsIn_wide (n := 3)).1 ?_
    refine callsIn_of_wp_marks Tryd.func6 rfl trivial ?_ rfl
    simp only [Tryd.ntmps6, List.size_toArray, List.length_cons, List.length_nil, Nat.reduceAdd, Nat.reduceSub, Array.replicate_succ, Array.replicate_zero, List.push_toArray, List.append_toArray, List.nil_append, List.cons_append]
    gi_wp2_with fail
    rw [unhide HW0]
    try rw [hn0]
    try rw [hrb]
    refine ⟨trivial, ((callsIn_wide).2 (live_any (unhide HT _ hb0))).mono ?_⟩
    rintro e z1 ⟨rfl, hb1⟩
    have HB1 := hide hb1
    clear hb1
    gi_wp2_with fail
    refine ⟨trivial, ((callsIn_wide).2 (unhide HD _ (unhide HZ _ (unhide HB1)))).mono ?_⟩
    rintro e z2 ⟨x2, rfl, hb2, ho2⟩
    have HB2 : Hid (Below W0.heap.size W0 z2) := (unhide HB1).trans (hb2.mono (unhide HB1).size)
    have hs2 := (own_sees iC_len (by decide) ho2).2
    obtain ⟨a2, c2, rfl⟩ := own_shape ho2
    have HS2 := hide hs2
    clear hb2 ho2 hs2
    gi_wp2_with fail
    refine ⟨trivial, ((callsIn_wide).2 (encode_any (unhide HT _ (unhide HZ _ (unhide HB2))) (unhide HS2) (unhide HDL).1 (by have := (unhide HDL).2; omega))).mono ?_⟩
    rw [unhide HDEE]
    rintro e z3 ⟨x3, rfl, hb3, ho3⟩
    have HB3 : Hid (Below W0.heap.size W0 z3) := (unhide HB2).trans (hb3.mono (unhide HB2).size)
    have hs3 := (own_sees yC_len (by decide) ho3).2
    obtain ⟨a3, c3, rfl⟩ := own_shape ho3
    have HS3 := hide hs3
    clear hb3 ho3 hs3
    gi_wp2_with fail
    refine ⟨trivial, ((callsIn_wide).2 (unhide HEQ _ _ (unhide HZ _ (unhide HB3)) (unhide HS3))).mono ?_⟩
    rintro e z4 ⟨rfl, rfl⟩
    obtain ⟨kl, kr, hlt⟩ := unhide HK _ (unhide HB3)
    have ql := cell_at (o := 0) kl
    have HKL := hide kl
    have HKR := hide kr
    clear kl kr
    gi_wp2_with fail
    refine ⟨trivial, ((callsIn_wide).2 (unhide HE _ (unhide HZ _ (unhide HB3)))).mono ?_⟩
    rintro e z5 ⟨x5, rfl, hb5, ho5⟩
    have HB5 : Hid (Below W0.heap.size W0 z5) := (unhide HB3).trans (hb5.mono (unhide HB3).size)
    have HO5 := hide ho5
    obtain ⟨a5, c5, rfl⟩ := own_shape ho5
    obtain ⟨kl5, kr5, hlt5⟩ := unhide HK _ (unhide HB5)
    have qr5 := cell_at (o := 0) kr5
    have fr5 := frozen_of_heap (o := 0) kr5
    have HKR5 := hide kr5
    clear hb5 ho5 ql kl5 kr5
    obtain ⟨ab, hab⟩ : ∃ x, z5.heap.size = x := ⟨_, rfl⟩
    obtain ⟨nb, hnb⟩ : ∃ x, ab + 1 = x := ⟨_, rfl⟩
    obtain ⟨Y, hY⟩ : ∃ Y, (z5.alloc (.cells #[.int .i64 0] 3)).alloc (.cells #[.int .i64 0] 3) = Y := ⟨_, rfl⟩
    have hbY : Below z5.heap.size z5 Y := by rw [← hY]; exact (below_box _).alloc (by simp) _
    have hsY : Y.heap.size = nb + 1 := by rw [← hY, ← hnb, ← hab]; simp
    have ka : Y.heap[ab]? = some (.cells #[.int .i64 0] 3) := by rw [← hY, Below.heap_alloc _ _ _ (by simp; omega), ← hab]; exact heap_alloc_new _ _
    have kn : Y.heap[nb]? = some (.cells #[.int .i64 0] 3) := by rw [← hY, ← hnb, ← hab]; have := heap_alloc_new (z5.alloc (.cells #[.int .i64 0] 3)) (.cells #[.int .i64 0] 3); rwa [World.size_alloc] at this
    have hsee := (own_sees yC_len (by decide) (own_below (unhide HO5) hbY)).2
    have hc512 : (enc L).1.length ≤ 512 := by rw [(unhide HEK).2.1]; exact (unhide HEK).2.2
    have HWL := hide (walk_any hsee (by omega))
    have HYB : Hid (Below W0.heap.size W0 Y) := (unhide HB5).trans (hbY.mono (unhide HB5).size)
    have HKA := hide (And.intro ka kn)
    have HYY := hide (And.intro hY (And.intro hab hnb))
    clear hsee ka kn hbY HO5 hY hab hnb
    gi_wp2_with fail
    obtain ⟨hY, hab, hnb⟩ := unhide HYY
    rw [hY]
    try rw [hab]
    try rw [hnb]
    refine ⟨trivial, ((callsIn_wide).2 (unhide HWL)).mono ?_⟩
    rintro e W2 ⟨bx, rfl, hwk, hb2⟩
    clear hY
    obtain ⟨B, hB⟩ : ∃ B, W2.heap.size = B := ⟨_, rfl⟩
    have hBY : nb + 1 ≤ B := by rw [← hB, ← hsY]; exact hb2.size
    have hbW : Below W0.heap.size W0 W2 := (unhide HYB).trans (hb2.mono (unhide HYB).size)
    obtain ⟨jl, jr, jlt⟩ := unhide HK _ hbW
    have ja := (hb2.block ab (by omega)).trans (unhide HKA).1
    have jn := (hb2.block nb (by omega)).trans (unhide HKA).2
    have hrb5 : rb < ab := by rw [← hab]; exact hlt5
    have i0 : BkI ab nb B L W2 [] W2 := ⟨⟨ja, jn⟩, Upd.refl _ _ _⟩
    have hTW := unhide HT _ (unhide HZ _ hbW)
    have hseq := walk_seq (3 - 1) hwk hTW (unhide HEBY) (by omega) (fun k => k < B ∧ k ≠ ab ∧ k ≠ nb) (fun k c => by rw [hB]; exact c.1) ⟨by omega, by omega, by omega⟩ (fun k h1 h2 => ⟨by rw [hB] at h2; exact h2, by omega, by omega⟩)
    have HUW := hide (unhide HU _ (unhide HZ _ hbW))
    have HBW := hide hbW
    clear hwk hb2 hbW HWL HYB HKA hTW qr5 fr5
    gi_wp2
    refine wpIn_range_as rfl (by decide) (gf := 48) (lb := #[P bx]) rfl trivial (enters_of Tryd.func48 (by kernel_rfl) rfl) hseq
      keepb_t (fun W o o' => keepb_put (fun c => by have := c.1; omega) W o o') (Below.refl _ _) (fun _ => by rfl)
      (BkI ab nb B L W2) (fun _ _ _ => False)
      (by rw [hB]; exact bkI_own ab nb B L W2 (by omega)) (fun _ => ownFrom_pure _ _) i0
      (fun x W => W.alloc (.cells #[.int .i64 x.ad, .int .i64 x.op, .int .i64 x.a, .int .i64 x.b, .int .i64 x.im] 28)) (fun x q => { tmps := #[.slice va n vc, .slice ua m uc, undef, P n0, P rb, .slice a2 (dec l).1.length c2, .int .i64 0, .slice a3 l.length c3, .int .i64 0, .slice a5 (enc L).1.length c5, .int .i64 0, P ab, P nb, .int .i64 x.ad, P q, undef, undef, undef, .bool true, .bool false, .tuple #[.slice a2 (dec l).1.length c2, .int .i64 0], .slice va n vc, .tuple #[.slice a2 (dec l).1.length c2, .int .i64 0], .slice a2 (dec l).1.length c2, .int .i64 0, .int .i64 0, .bool true, .tuple #[.slice a3 l.length c3, .int .i64 0], .slice a2 (dec l).1.length c2, .tuple #[.slice a3 l.length c3, .int .i64 0], .slice a3 l.length c3, .int .i64 0, .int .i64 0, .bool false, .bool false, .slice a3 l.length c3, .slice va n vc, .bool true, .bool false, .bool false, .tuple #[.slice a5 (enc L).1.length c5, .int .i64 0], .slice ua m uc, .tuple #[.slice a5 (enc L).1.length c5, .int .i64 0], .slice a5 (enc L).1.length c5, .int .i64 0, .int .i64 0, .bool false, .slice a5 (enc L).1.length c5, WkF bx, .int .i64 x.ad, iW x, undef, undef, undef, undef, undef, undef, undef, undef, undef, undef, undef, undef, undef, undef, undef, undef, undef, undef, undef, undef, undef, undef, undef, undef, undef, undef, undef, undef, undef, undef, undef, undef, undef, undef, undef, undef, undef, undef, undef], defers := [] })
      (fun x q pre W => (BkI ab nb B L W2 pre W ∧ W.heap[q]? = some (.cells #[.int .i64 x.ad, .int .i64 x.op, .int .i64 x.a, .int .i64 x.b, .int .i64 x.im] 28)) ∧ B ≤ q)
      (fun x q => by rw [hB]; exact OwnFrom.and (OwnFrom.and (bkI_own ab nb B L W2 (by omega)) (ownFrom_cells B q (fun _ => #[.int .i64 x.ad, .int .i64 x.op, .int .i64 x.a, .int .i64 x.b, .int .i64 x.im]) 28)) (ownFrom_pure _ _))
      (fun x W => (Below.refl _ _).alloc (Nat.le_refl _) _) (fun x W hs => ⟨by simp, fun k hk => Below.heap_alloc _ _ _ (by have := hk.1; omega)⟩)
      (fun pre x W hI hOk hsz => by
        have hbW : Below W.heap.size W (W.alloc (.cells #[.int .i64 x.ad, .int .i64 x.op, .int .i64 x.a, .int .i64 x.b, .int .i64 x.im] 28)) := (Below.refl _ _).alloc (Nat.le_refl _) _
        exact ⟨⟨⟨⟨(hbW.block ab (by omega)).trans hI.1.1, (hbW.block nb (by omega)).trans hI.1.2⟩, hI.2.trans ((Upd.of hbW).less (by omega))⟩, heap_alloc_new _ _⟩, by omega⟩) ?assign ?body ?done ?stop
    case assign =>
      intro lp x W K hK
      unfold encW
      clear hseq i0 ja jn jl jr hB hBY
      gi_wp2
      exact hK
    case body =>
      intro lp pre x q W hI hOk
      obtain ⟨⟨⟨⟨kat, kn⟩, hU⟩, kq⟩, hqB⟩ := hI
      obtain ⟨r, hr⟩ := hOk
      rw [unhide HWK] at hr
      obtain ⟨k, hk⟩ : ∃ k, pre.length = k := ⟨_, rfl⟩
      have hkm : k < m := by
        have := congrArg List.length hr
        rw [adr_len, unhide HLM, List.length_append, List.length_cons] at this
        omega
      obtain ⟨y, hy⟩ : ∃ y, L[k]? = some y := ⟨_, List.getElem?_eq_getElem (by rw [unhide HLM]; exact hkm)⟩
      have hxy : x = ⟨(lenB (L.take k) : Nat), y.op, y.a, y.b, y.im⟩ := by
        have h1 := adr_at L 0 k y hy
        rw [← hr, ← hk, List.getElem?_append_right (Nat.le_refl _), Nat.sub_self, List.getElem?_cons_zero, Nat.zero_add, hk] at h1
        exact Option.some.inj h1
      have hst := lenB_step hy
      have hle : lenB (L.take (k + 1)) ≤ 512 := by
        have h1 := (unhide HEK).2.2
        have h2 : (L.flatMap putB).length = lenB (L.take (k + 1)) + ((L.drop (k + 1)).flatMap putB).length := by
          unfold lenB
          rw [← List.length_append, ← List.flatMap_append, List.take_append_drop]
        omega
      have hpy : putE y = 0 := encE_mem (unhide HEK).1 y (List.mem_of_getElem? hy)
      have hop := (putE_op hpy).1
      have hlen := putB_len hop
      have HSZ : Hid (∀ z, Tab z → Calls Tryd.prog 25 #[.int .i64 y.op] z fun e w' => e = .returned (.tuple #[.int .i64 (sz y.op), .bool true]) ∧ z = w') := fun z hz => size_yes y.op z hz hop.1 hop.2
      rw [hk] at kat kn
      have hsW : B ≤ W.heap.size := by have := hU.size; omega
      have kl : W.heap[n0]? = _ := (hU.block n0 (by omega) (by rintro (e | e) <;> omega)).trans jl
      have hTW : Tab W := (unhide HT _ (unhide HZ _ (unhide HBW))).keep (hU.block 0 (by omega) (by rintro (e | e) <;> omega))
      have huW : SeesL iC 5 W (.slice ua m uc) L := by
        obtain ⟨gb, hg1, hg2⟩ := (unhide HU _ ((Below.refl n0 w))).inBlock iC_len
        have hgl : gb < n0 := by rw [← hn0]; exact hg1 (by rw [unhide HLM]; omega) (by decide)
        exact hg2 W ((hU.block gb (by omega) (by rintro (e | e) <;> omega)).trans ((unhide HZ _ (unhide HBW)).block gb hgl))
      obtain ⟨ua', uc', g, o, hv2, _, hao, hc⟩ := huW.ins
      simp only [Value.slice.injEq] at hv2
      obtain ⟨rfl, -, rfl⟩ := hv2
      obtain rfl := hao (by rw [unhide HLM]; omega)
      obtain ⟨d0, d1, d2, d3, d4⟩ := hc k y hy
      obtain ⟨at0, hat⟩ : ∃ a : Nat, lenB (L.take k) = a := ⟨_, rfl⟩
      obtain ⟨at1, hat1⟩ : ∃ a : Nat, lenB (L.take (k + 1)) = a := ⟨_, rfl⟩
      rw [hat, hat1] at hst
      rw [hat] at kat hxy
      obtain ⟨s, hs⟩ : ∃ s, sz y.op = s := ⟨_, rfl⟩
      rw [hs] at HSZ hlen
      obtain ⟨yd, yo, ya, yb, ym⟩ := y
      subst hxy
      simp only at *
      have hw1 : IntKind.i64.wrap ((at0 : Int) + s) = (at1 : Int) := by rw [wrap_i64 _ (by omega) (by omega)]; omega
      obtain ⟨k1, hk1⟩ : ∃ k1, k + 1 = k1 := ⟨_, rfl⟩
      have hw2 : IntKind.i64.wrap ((k : Int) + 1) = (k1 : Int) := by rw [wrap_i64 _ (by omega) (by omega)]; omega
      have hge : decide ((k : Int) ≥ (m : Int)) = false := decide_eq_false (by omega)
      have hge' : decide ((m : Int) ≤ (k : Int)) = false := decide_eq_false (by omega)
      have hi0 : (0 : Int) ≤ (k : Int) := by omega
      have hi1 : (k : Int) < (m : Int) := by omega
      have hnq := fun z => neq_ins ⟨at0, yo, ya, yb, ym⟩ ⟨at0, yo, ya, yb, ym⟩ z
      simp only [decide_true, Bool.not_true] at hnq
      have p1 : W.cell? ⟨nb, 0, none⟩ = some (.int .i64 (k : Int)) := cell_at kn
      have p2 : W.cell? ⟨n0, 0, none⟩ = some (.slice (some ⟨g, o, none⟩) m uc) := cell_at kl
      have p3 : W.cell? ⟨ab, 0, none⟩ = some (.int .i64 (at0 : Int)) := cell_at kat
      have qO : ∀ ob, (W.alloc ob).cell? ⟨ab, 0, none⟩ = some (.int .i64 (at0 : Int)) := fun ob => ((below_box ob).cell (World.block_lt_of_cell? W _ p3)).trans p3
      obtain ⟨Z, hZ⟩ : ∃ Z, W.alloc (.cells #[.int .i64 (at0 : Int), .int .i64 yo, .int .i64 ya, .int .i64 yb, .int .i64 ym] 28) = Z := ⟨_, rfl⟩
      have hbZ : Below W.heap.size W Z := by rw [← hZ]; exact below_box _
      have kqZ := (hbZ.block q (Array.getElem?_eq_some_iff.1 kq).1).trans kq
      have kbZ : Z.heap[W.heap.size]? = some (.cells #[.int .i64 (at0 : Int), .int .i64 yo, .int .i64 ya, .int .i64 yb, .int .i64 ym] 28) := by rw [← hZ]; exact heap_alloc_new _ _
      have kaZ := (hbZ.block ab (by omega)).trans kat
      have knZ := (hbZ.block nb (by omega)).trans kn
      obtain ⟨r0, r1, r2, r3, r4⟩ := cells5 kqZ
      obtain ⟨s0, s1, s2, s3, s4⟩ := cells5 kbZ
      have y0 := cell_at (o := 0) kaZ
      have y1 := frozen_of_heap (o := 0) kaZ
      have y2 := cell_at (o := 0) knZ
      have y3 := frozen_of_heap (o := 0) knZ
      have hne : ¬ ab = nb := by omega
      have hne' : ¬ nb = ab := by omega
      have HFIN : Hid (KeepsFrom W2.heap.size W ((Z.setCell ⟨ab, 0, none⟩ (.int .i64 (at1 : Int))).setCell ⟨nb, 0, none⟩ (.int .i64 (k1 : Int))) ∧ Keepb (fun k => k < B ∧ k ≠ ab ∧ k ≠ nb) W ((Z.setCell ⟨ab, 0, none⟩ (.int .i64 (at1 : Int))).setCell ⟨nb, 0, none⟩ (.int .i64 (k1 : Int))) ∧ BkI ab nb B L W2 (pre ++ [⟨at0, yo, ya, yb, ym⟩]) ((Z.setCell ⟨ab, 0, none⟩ (.int .i64 (at1 : Int))).setCell ⟨nb, 0, none⟩ (.int .i64 (k1 : Int)))) := by
        have hU9 : Upd (fun k => k = ab ∨ k = nb) W.heap.size W ((Z.setCell ⟨ab, 0, none⟩ (.int .i64 (at1 : Int))).setCell ⟨nb, 0, none⟩ (.int .i64 (k1 : Int))) := ((Upd.of hbZ).setCell (p := ⟨ab, 0, none⟩) (.inl (.inl rfl)) _).setCell (p := ⟨nb, 0, none⟩) (.inl (.inr rfl)) _
        refine ⟨keepsFrom_upd hU9 (by rintro j (rfl | rfl) <;> omega), ⟨hU9.size, fun j hj => hU9.block j (by have := hj.1; omega) (by rintro (e | e); exact hj.2.1 e; exact hj.2.2 e)⟩, ⟨?_, ?_⟩, hU.trans (hU9.less (by omega))⟩
        · rw [Below.heap_setCell _ _ _ _ hne, List.length_append, hk]
          simp only [List.length_singleton]
          rw [hat1]
          exact one_setCell kaZ
        · rw [List.length_append, hk]
          simp only [List.length_singleton]
          rw [hk1]
          exact one_setCell (by rw [Below.heap_setCell _ _ _ _ hne']; exact knZ)
      have HZZ := hide hZ
      have HTZ := hide (hTW.below hbZ (by omega))
      clear hseq i0 jl jr ja jn hU kat kn kl kq kqZ kbZ kaZ knZ hbZ hZ hTW hc huW hr hy hst hlen hop hpy hle hat hat1 hs hk hk1
      gi_wp2_with (first
        | rw [unhide HZZ]
        | (refine ⟨trivial, (((callsIn_wide).2 (unhide HSZ _ (unhide HTZ))).inRound lp).mono ?_⟩; rintro e z9 ⟨rfl, rfl⟩))
      exact unhide HFIN
    case stop =>
      intro D cd pre W hD hX hK
      exact hX.elim
    case done =>
      intro D9 xs W hD hxs hI hK
      subst hxs
      obtain ⟨⟨kat, kn⟩, hU⟩ := hI
      rw [unhide HWK, adr_len, unhide HLM] at kat kn
      have hfl : lenB (L.take m) = (enc L).1.length := by
        rw [List.take_of_length_le (by rw [unhide HLM]; omega), (unhide HEK).2.1]; rfl
      rw [hfl] at kat
      have hsW : B ≤ W.heap.size := by have := hU.size; omega
      have kl : W.heap[n0]? = _ := (hU.block n0 (by omega) (by rintro (e | e) <;> omega)).trans jl
      have kr : W.heap[rb]? = _ := (hU.block rb (by omega) (by rintro (e | e) <;> omega)).trans jr
      have p1 := cell_at (o := 0) kn
      have p2 := cell_at (o := 0) kl
      have p3 := cell_at (o := 0) kat
      have p4 := cell_at (o := 0) kr
      have p5 := frozen_of_heap (o := 0) kr
      have hD' : B ≤ D9 := by rw [← hB]; exact hD
      have HBF : Hid (Below n0 w W) := (unhide HZ _ (unhide HBW)).trans ⟨hU.os, hU.tape, hU.output, hU.size, fun k hk => hU.block k (by omega) (by rintro (e | e) <;> omega)⟩
      have HM : Hid (Marks [{ target := .collected D9, args := #[] }] W) := (Marks.nil W).cons hK (fun c => by cases c)
      have HKR := hide kr
      have e1 : ((m : Int) == (m : Int)) = true := by simp
      have e2 : (((enc L).1.length : Int) == ((enc L).1.length : Int)) = true := by simp
      clear hseq i0 jl jr ja jn kat kn kl kr hU hK hD hfl
      gi_wp2
      refine ret_box res6 rfl (unhide HBF) (by omega) (unhide HKR) _ (unhide HM) (fun k c => ?_)
      rcases List.mem_cons.1 c with e | e
      · simp only [Deferred.mk.injEq, Target.collected.injEq, and_true] at e
        omega
      · cases e
  · skip
    have HDL := hide (unhide HDOK hd)
    have HDEE := hide (unhide HDE hd)
    rw [hd] at HD
    obtain ⟨E, hE⟩ : ∃ E, (enc L).2 = E := ⟨_, rfl⟩
    have hne2 : (E != 0) = true := by rw [← hE]; simpa using he
    rw [hE] at HE
    clear hd he hE HDOK HDE
    refine (callsIn_wide (n := 3)).1 ?_
    refine callsIn_of_wp_marks Tryd.func6 rfl trivial ?_ rfl
    simp only [Tryd.ntmps6, List.size_toArray, List.length_cons, List.length_nil, Nat.reduceAdd, Nat.reduceSub, Array.replicate_succ, Array.replicate_zero, List.push_toArray, List.append_toArray, List.nil_append, List.cons_append]
    gi_wp2_with fail
    rw [unhide HW0]
    try rw [hn0]
    try rw [hrb]
    refine ⟨trivial, ((callsIn_wide).2 (live_any (unhide HT _ hb0))).mono ?_⟩
    rintro e z1 ⟨rfl, hb1⟩
    have HB1 := hide hb1
    clear hb1
    gi_wp2_with fail
    refine ⟨trivial, ((callsIn_wide).2 (unhide HD _ (unhide HZ _ (unhide HB1)))).mono ?_⟩
    rintro e z2 ⟨x2, rfl, hb2, ho2⟩
    have HB2 : Hid (Below W0.heap.size W0 z2) := (unhide HB1).trans (hb2.mono (unhide HB1).size)
    have hs2 := (own_sees iC_len (by decide) ho2).2
    obtain ⟨a2, c2, rfl⟩ := own_shape ho2
    have HS2 := hide hs2
    clear hb2 ho2 hs2
    gi_wp2_with fail
    refine ⟨trivial, ((callsIn_wide).2 (encode_any (unhide HT _ (unhide HZ _ (unhide HB2))) (unhide HS2) (unhide HDL).1 (by have := (unhide HDL).2; omega))).mono ?_⟩
    rw [unhide HDEE]
    rintro e z3 ⟨x3, rfl, hb3, ho3⟩
    have HB3 : Hid (Below W0.heap.size W0 z3) := (unhide HB2).trans (hb3.mono (unhide HB2).size)
    have hs3 := (own_sees yC_len (by decide) ho3).2
    obtain ⟨a3, c3, rfl⟩ := own_shape ho3
    have HS3 := hide hs3
    clear hb3 ho3 hs3
    gi_wp2_with fail
    refine ⟨trivial, ((callsIn_wide).2 (unhide HEQ _ _ (unhide HZ _ (unhide HB3)) (unhide HS3))).mono ?_⟩
    rintro e z4 ⟨rfl, rfl⟩
    obtain ⟨kl, kr, hlt⟩ := unhide HK _ (unhide HB3)
    have ql := cell_at (o := 0) kl
    have HKL := hide kl
    have HKR := hide kr
    clear kl kr
    gi_wp2_with fail
    refine ⟨trivial, ((callsIn_wide).2 (unhide HE _ (unhide HZ _ (unhide HB3)))).mono ?_⟩
    rintro e z5 ⟨x5, rfl, hb5, ho5⟩
    have HB5 : Hid (Below W0.heap.size W0 z5) := (unhide HB3).trans (hb5.mono (unhide HB3).size)
    have HO5 := hide ho5
    obtain ⟨a5, c5, rfl⟩ := own_shape ho5
    obtain ⟨kl5, kr5, hlt5⟩ := unhide HK _ (unhide HB5)
    have qr5 := cell_at (o := 0) kr5
    have fr5 := frozen_of_heap (o := 0) kr5
    have HKR5 := hide kr5
    clear hb5 ho5 ql kl5 kr5
    gi_wp2
    exact ret_box res6 rfl (unhide HZ _ (unhide HB5)) (by omega) (unhide HKR5) [] (Marks.nil _) (fun k c => by cases c)
  · skip
    obtain ⟨D, hD⟩ : ∃ D, (dec l).2 = D := ⟨_, rfl⟩
    have hne : (D == 0) = false := by rw [← hD]; simpa using hd
    rw [hD] at HD
    have HEK := hide (enc_ok he)
    have HWK := hide (enc_wk he)
    have HEBY := hide (enc_bytes L)
    rw [he] at HE
    clear hd hD he HDOK HDE
    refine (callsIn_wide (n := 3)).1 ?_
    refine callsIn_of_wp_marks Tryd.func6 rfl trivial ?_ rfl
    simp only [Tryd.ntmps6, List.size_toArray, List.length_cons, List.length_nil, Nat.reduceAdd, Nat.reduceSub, Array.replicate_succ, Array.replicate_zero, List.push_toArray, List.append_toArray, List.nil_append, List.cons_append]
    gi_wp2_with fail
    rw [unhide HW0]
    try rw [hn0]
    try rw [hrb]
    refine ⟨trivial, ((callsIn_wide).2 (live_any (unhide HT _ hb0))).mono ?_⟩
    rintro e z1 ⟨rfl, hb1⟩
    have HB1 := hide hb1
    clear hb1
    gi_wp2_with fail
    refine ⟨trivial, ((callsIn_wide).2 (unhide HD _ (unhide HZ _ (unhide HB1)))).mono ?_⟩
    rintro e z2 ⟨x2, rfl, hb2, ho2⟩
    have HB2 : Hid (Below W0.heap.size W0 z2) := (unhide HB1).trans (hb2.mono (unhide HB1).size)
    have hs2 := (own_sees iC_len (by decide) ho2).2
    obtain ⟨a2, c2, rfl⟩ := own_shape ho2
    have HS2 := hide hs2
    clear hb2 ho2 hs2
    obtain ⟨kl, kr, hlt⟩ := unhide HK _ (unhide HB2)
    have ql := cell_at (o := 0) kl
    have HKL := hide kl
    have HKR := hide kr
    clear kl kr
    gi_wp2_with fail
    refine ⟨trivial, ((callsIn_wide).2 (unhide HE _ (unhide HZ _ (unhide HB2)))).mono ?_⟩
    rintro e z5 ⟨x5, rfl, hb5, ho5⟩
    have HB5 : Hid (Below W0.heap.size W0 z5) := (unhide HB2).trans (hb5.mono (unhide HB2).size)
    have HO5 := hide ho5
    obtain ⟨a5, c5, rfl⟩ := own_shape ho5
    obtain ⟨kl5, kr5, hlt5⟩ := unhide HK _ (unhide HB5)
    have qr5 := cell_at (o := 0) kr5
    have fr5 := frozen_of_heap (o := 0) kr5
    have HKR5 := hide kr5
    clear hb5 ho5 ql kl5 kr5
    obtain ⟨ab, hab⟩ : ∃ x, z5.heap.size = x := ⟨_, rfl⟩
    obtain ⟨nb, hnb⟩ : ∃ x, ab + 1 = x := ⟨_, rfl⟩
    obtain ⟨Y, hY⟩ : ∃ Y, (z5.alloc (.cells #[.int .i64 0] 3)).alloc (.cells #[.int .i64 0] 3) = Y := ⟨_, rfl⟩
    have hbY : Below z5.heap.size z5 Y := by rw [← hY]; exact (below_box _).alloc (by simp) _
    have hsY : Y.heap.size = nb + 1 := by rw [← hY, ← hnb, ← hab]; simp
    have ka : Y.heap[ab]? = some (.cells #[.int .i64 0] 3) := by rw [← hY, Below.heap_alloc _ _ _ (by simp; omega), ← hab]; exact heap_alloc_new _ _
    have kn : Y.heap[nb]? = some (.cells #[.int .i64 0] 3) := by rw [← hY, ← hnb, ← hab]; have := heap_alloc_new (z5.alloc (.cells #[.int .i64 0] 3)) (.cells #[.int .i64 0] 3); rwa [World.size_alloc] at this
    have hsee := (own_sees yC_len (by decide) (own_below (unhide HO5) hbY)).2
    have hc512 : (enc L).1.length ≤ 512 := by rw [(unhide HEK).2.1]; exact (unhide HEK).2.2
    have HWL := hide (walk_any hsee (by omega))
    have HYB : Hid (Below W0.heap.size W0 Y) := (unhide HB5).trans (hbY.mono (unhide HB5).size)
    have HKA := hide (And.intro ka kn)
    have HYY := hide (And.intro hY (And.intro hab hnb))
    clear hsee ka kn hbY HO5 hY hab hnb
    gi_wp2_with fail
    obtain ⟨hY, hab, hnb⟩ := unhide HYY
    rw [hY]
    try rw [hab]
    try rw [hnb]
    refine ⟨trivial, ((callsIn_wide).2 (unhide HWL)).mono ?_⟩
    rintro e W2 ⟨bx, rfl, hwk, hb2⟩
    clear hY
    obtain ⟨B, hB⟩ : ∃ B, W2.heap.size = B := ⟨_, rfl⟩
    have hBY : nb + 1 ≤ B := by rw [← hB, ← hsY]; exact hb2.size
    have hbW : Below W0.heap.size W0 W2 := (unhide HYB).trans (hb2.mono (unhide HYB).size)
    obtain ⟨jl, jr, jlt⟩ := unhide HK _ hbW
    have ja := (hb2.block ab (by omega)).trans (unhide HKA).1
    have jn := (hb2.block nb (by omega)).trans (unhide HKA).2
    have hrb5 : rb < ab := by rw [← hab]; exact hlt5
    have i0 : BkI ab nb B L W2 [] W2 := ⟨⟨ja, jn⟩, Upd.refl _ _ _⟩
    have hTW := unhide HT _ (unhide HZ _ hbW)
    have hseq := walk_seq (3 - 1) hwk hTW (unhide HEBY) (by omega) (fun k => k < B ∧ k ≠ ab ∧ k ≠ nb) (fun k c => by rw [hB]; exact c.1) ⟨by omega, by omega, by omega⟩ (fun k h1 h2 => ⟨by rw [hB] at h2; exact h2, by omega, by omega⟩)
    have HUW := hide (unhide HU _ (unhide HZ _ hbW))
    have HBW := hide hbW
    clear hwk hb2 hbW HWL HYB HKA hTW qr5 fr5
    gi_wp2
    refine wpIn_range_as rfl (by decide) (gf := 48) (lb := #[P bx]) rfl trivial (enters_of Tryd.func48 (by kernel_rfl) rfl) hseq
      keepb_t (fun W o o' => keepb_put (fun c => by have := c.1; omega) W o o') (Below.refl _ _) (fun _ => by rfl)
      (BkI ab nb B L W2) (fun _ _ _ => False)
      (by rw [hB]; exact bkI_own ab nb B L W2 (by omega)) (fun _ => ownFrom_pure _ _) i0
      (fun x W => W.alloc (.cells #[.int .i64 x.ad, .int .i64 x.op, .int .i64 x.a, .int .i64 x.b, .int .i64 x.im] 28)) (fun x q => { tmps := #[.slice va n vc, .slice ua m uc, undef, P n0, P rb, .slice a2 (dec l).1.length c2, .int .i64 D, undef, undef, .slice a5 (enc L).1.length c5, .int .i64 0, P ab, P nb, .int .i64 x.ad, P q, undef, undef, undef, .bool true, .bool false, .tuple #[.slice a2 (dec l).1.length c2, .int .i64 D], .slice va n vc, .tuple #[.slice a2 (dec l).1.length c2, .int .i64 D], .slice a2 (dec l).1.length c2, .int .i64 D, .int .i64 D, .bool false, undef, undef, undef, undef, undef, undef, undef, undef, undef, undef, undef, undef, undef, .tuple #[.slice a5 (enc L).1.length c5, .int .i64 0], .slice ua m uc, .tuple #[.slice a5 (enc L).1.length c5, .int .i64 0], .slice a5 (enc L).1.length c5, .int .i64 0, .int .i64 0, .bool false, .slice a5 (enc L).1.length c5, WkF bx, .int .i64 x.ad, iW x, undef, undef, undef, undef, undef, undef, undef, undef, undef, undef, undef, undef, undef, undef, undef, undef, undef, undef, undef, undef, undef, undef, undef, undef, undef, undef, undef, undef, undef, undef, undef, undef, undef, undef, undef, undef, undef, undef, undef], defers := [] })
      (fun x q pre W => (BkI ab nb B L W2 pre W ∧ W.heap[q]? = some (.cells #[.int .i64 x.ad, .int .i64 x.op, .int .i64 x.a, .int .i64 x.b, .int .i64 x.im] 28)) ∧ B ≤ q)
      (fun x q => by rw [hB]; exact OwnFrom.and (OwnFrom.and (bkI_own ab nb B L W2 (by omega)) (ownFrom_cells B q (fun _ => #[.int .i64 x.ad, .int .i64 x.op, .int .i64 x.a, .int .i64 x.b, .int .i64 x.im]) 28)) (ownFrom_pure _ _))
      (fun x W => (Below.refl _ _).alloc (Nat.le_refl _) _) (fun x W hs => ⟨by simp, fun k hk => Below.heap_alloc _ _ _ (by have := hk.1; omega)⟩)
      (fun pre x W hI hOk hsz => by
        have hbW : Below W.heap.size W (W.alloc (.cells #[.int .i64 x.ad, .int .i64 x.op, .int .i64 x.a, .int .i64 x.b, .int .i64 x.im] 28)) := (Below.refl _ _).alloc (Nat.le_refl _) _
        exact ⟨⟨⟨⟨(hbW.block ab (by omega)).trans hI.1.1, (hbW.block nb (by omega)).trans hI.1.2⟩, hI.2.trans ((Upd.of hbW).less (by omega))⟩, heap_alloc_new _ _⟩, by omega⟩) ?assign ?body ?done ?stop
    case assign =>
      intro lp x W K hK
      unfold encW
      clear hseq i0 ja jn jl jr hB hBY
      gi_wp2
      exact hK
    case body =>
      intro lp pre x q W hI hOk
      obtain ⟨⟨⟨⟨kat, kn⟩, hU⟩, kq⟩, hqB⟩ := hI
      obtain ⟨r, hr⟩ := hOk
      rw [unhide HWK] at hr
      obtain ⟨k, hk⟩ : ∃ k, pre.length = k := ⟨_, rfl⟩
      have hkm : k < m := by
        have := congrArg List.length hr
        rw [adr_len, unhide HLM, List.length_append, List.length_cons] at this
        omega
      obtain ⟨y, hy⟩ : ∃ y, L[k]? = some y := ⟨_, List.getElem?_eq_getElem (by rw [unhide HLM]; exact hkm)⟩
      have hxy : x = ⟨(lenB (L.take k) : Nat), y.op, y.a, y.b, y.im⟩ := by
        have h1 := adr_at L 0 k y hy
        rw [← hr, ← hk, List.getElem?_append_right (Nat.le_refl _), Nat.sub_self, List.getElem?_cons_zero, Nat.zero_add, hk] at h1
        exact Option.some.inj h1
      have hst := lenB_step hy
      have hle : lenB (L.take (k + 1)) ≤ 512 := by
        have h1 := (unhide HEK).2.2
        have h2 : (L.flatMap putB).length = lenB (L.take (k + 1)) + ((L.drop (k + 1)).flatMap putB).length := by
          unfold lenB
          rw [← List.length_append, ← List.flatMap_append, List.take_append_drop]
        omega
      have hpy : putE y = 0 := encE_mem (unhide HEK).1 y (List.mem_of_getElem? hy)
      have hop := (putE_op hpy).1
      have hlen := putB_len hop
      have HSZ : Hid (∀ z, Tab z → Calls Tryd.prog 25 #[.int .i64 y.op] z fun e w' => e = .returned (.tuple #[.int .i64 (sz y.op), .bool true]) ∧ z = w') := fun z hz => size_yes y.op z hz hop.1 hop.2
      rw [hk] at kat kn
      have hsW : B ≤ W.heap.size := by have := hU.size; omega
      have kl : W.heap[n0]? = _ := (hU.block n0 (by omega) (by rintro (e | e) <;> omega)).trans jl
      have hTW : Tab W := (unhide HT _ (unhide HZ _ (unhide HBW))).keep (hU.block 0 (by omega) (by rintro (e | e) <;> omega))
      have huW : SeesL iC 5 W (.slice ua m uc) L := by
        obtain ⟨gb, hg1, hg2⟩ := (unhide HU _ ((Below.refl n0 w))).inBlock iC_len
        have hgl : gb < n0 := by rw [← hn0]; exact hg1 (by rw [unhide HLM]; omega) (by decide)
        exact hg2 W ((hU.block gb (by omega) (by rintro (e | e) <;> omega)).trans ((unhide HZ _ (unhide HBW)).block gb hgl))
      obtain ⟨ua', uc', g, o, hv2, _, hao, hc⟩ := huW.ins
      simp only [Value.slice.injEq] at hv2
      obtain ⟨rfl, -, rfl⟩ := hv2
      obtain rfl := hao (by rw [unhide HLM]; omega)
      obtain ⟨d0, d1, d2, d3, d4⟩ := hc k y hy
      obtain ⟨at0, hat⟩ : ∃ a : Nat, lenB (L.take k) = a := ⟨_, rfl⟩
      obtain ⟨at1, hat1⟩ : ∃ a : Nat, lenB (L.take (k + 1)) = a := ⟨_, rfl⟩
      rw [hat, hat1] at hst
      rw [hat] at kat hxy
      obtain ⟨s, hs⟩ : ∃ s, sz y.op = s := ⟨_, rfl⟩
      rw [hs] at HSZ hlen
      obtain ⟨yd, yo, ya, yb, ym⟩ := y
      subst hxy
      simp only at *
      have hw1 : IntKind.i64.wrap ((at0 : Int) + s) = (at1 : Int) := by rw [wrap_i64 _ (by omega) (by omega)]; omega
      obtain ⟨k1, hk1⟩ : ∃ k1, k + 1 = k1 := ⟨_, rfl⟩
      have hw2 : IntKind.i64.wrap ((k : Int) + 1) = (k1 : Int) := by rw [wrap_i64 _ (by omega) (by omega)]; omega
      have hge : decide ((k : Int) ≥ (m : Int)) = false := decide_eq_false (by omega)
      have hge' : decide ((m : Int) ≤ (k : Int)) = false := decide_eq_false (by omega)
      have hi0 : (0 : Int) ≤ (k : Int) := by omega
      have hi1 : (k : Int) < (m : Int) := by omega
      have hnq := fun z => neq_ins ⟨at0, yo, ya, yb, ym⟩ ⟨at0, yo, ya, yb, ym⟩ z
      simp only [decide_true, Bool.not_true] at hnq
      have p1 : W.cell? ⟨nb, 0, none⟩ = some (.int .i64 (k : Int)) := cell_at kn
      have p2 : W.cell? ⟨n0, 0, none⟩ = some (.slice (some ⟨g, o, none⟩) m uc) := cell_at kl
      have p3 : W.cell? ⟨ab, 0, none⟩ = some (.int .i64 (at0 : Int)) := cell_at kat
      have qO : ∀ ob, (W.alloc ob).cell? ⟨ab, 0, none⟩ = some (.int .i64 (at0 : Int)) := fun ob => ((below_box ob).cell (World.block_lt_of_cell? W _ p3)).trans p3
      obtain ⟨Z, hZ⟩ : ∃ Z, W.alloc (.cells #[.int .i64 (at0 : Int), .int .i64 yo, .int .i64 ya, .int .i64 yb, .int .i64 ym] 28) = Z := ⟨_, rfl⟩
      have hbZ : Below W.heap.size W Z := by rw [← hZ]; exact below_box _
      have kqZ := (hbZ.block q (Array.getElem?_eq_some_iff.1 kq).1).trans kq
      have kbZ : Z.heap[W.heap.size]? = some (.cells #[.int .i64 (at0 : Int), .int .i64 yo, .int .i64 ya, .int .i64 yb, .int .i64 ym] 28) := by rw [← hZ]; exact heap_alloc_new _ _
      have kaZ := (hbZ.block ab (by omega)).trans kat
      have knZ := (hbZ.block nb (by omega)).trans kn
      obtain ⟨r0, r1, r2, r3, r4⟩ := cells5 kqZ
      obtain ⟨s0, s1, s2, s3, s4⟩ := cells5 kbZ
      have y0 := cell_at (o := 0) kaZ
      have y1 := frozen_of_heap (o := 0) kaZ
      have y2 := cell_at (o := 0) knZ
      have y3 := frozen_of_heap (o := 0) knZ
      have hne : ¬ ab = nb := by omega
      have hne' : ¬ nb = ab := by omega
      have HFIN : Hid (KeepsFrom W2.heap.size W ((Z.setCell ⟨ab, 0, none⟩ (.int .i64 (at1 : Int))).setCell ⟨nb, 0, none⟩ (.int .i64 (k1 : Int))) ∧ Keepb (fun k => k < B ∧ k ≠ ab ∧ k ≠ nb) W ((Z.setCell ⟨ab, 0, none⟩ (.int .i64 (at1 : Int))).setCell ⟨nb, 0, none⟩ (.int .i64 (k1 : Int))) ∧ BkI ab nb B L W2 (pre ++ [⟨at0, yo, ya, yb, ym⟩]) ((Z.setCell ⟨ab, 0, none⟩ (.int .i64 (at1 : Int))).setCell ⟨nb, 0, none⟩ (.int .i64 (k1 : Int)))) := by
        have hU9 : Upd (fun k => k = ab ∨ k = nb) W.heap.size W ((Z.setCell ⟨ab, 0, none⟩ (.int .i64 (at1 : Int))).setCell ⟨nb, 0, none⟩ (.int .i64 (k1 : Int))) := ((Upd.of hbZ).setCell (p := ⟨ab, 0, none⟩) (.inl (.inl rfl)) _).setCell (p := ⟨nb, 0, none⟩) (.inl (.inr rfl)) _
        refine ⟨keepsFrom_upd hU9 (by rintro j (rfl | rfl) <;> omega), ⟨hU9.size, fun j hj => hU9.block j (by have := hj.1; omega) (by rintro (e | e); exact hj.2.1 e; exact hj.2.2 e)⟩, ⟨?_, ?_⟩, hU.trans (hU9.less (by omega))⟩
        · rw [Below.heap_setCell _ _ _ _ hne, List.length_append, hk]
          simp only [List.length_singleton]
          rw [hat1]
          exact one_setCell kaZ
        · rw [List.length_append, hk]
          simp only [List.length_singleton]
          rw [hk1]
          exact one_setCell (by rw [Below.heap_setCell _ _ _ _ hne']; exact knZ)
      have HZZ := hide hZ
      have HTZ := hide (hTW.below hbZ (by omega))
      clear hseq i0 jl jr ja jn hU kat kn kl kq kqZ kbZ kaZ knZ hbZ hZ hTW hc huW hr hy hst hlen hop hpy hle hat hat1 hs hk hk1
      gi_wp2_with (first
        | rw [unhide HZZ]
        | (refine ⟨trivial, (((callsIn_wide).2 (unhide HSZ _ (unhide HTZ))).inRound lp).mono ?_⟩; rintro e z9 ⟨rfl, rfl⟩))
      exact unhide HFIN
    case stop =>
      intro D cd pre W hD hX hK
      exact hX.elim
    case done =>
      intro D9 xs W hD hxs hI hK
      subst hxs
      obtain ⟨⟨kat, kn⟩, hU⟩ := hI
      rw [unhide HWK, adr_len, unhide HLM] at kat kn
      have hfl : lenB (L.take m) = (enc L).1.length := by
        rw [List.take_of_length_le (by rw [unhide HLM]; omega), (unhide HEK).2.1]; rfl
      rw [hfl] at kat
      have hsW : B ≤ W.heap.size := by have := hU.size; omega
      have kl : W.heap[n0]? = _ := (hU.block n0 (by omega) (by rintro (e | e) <;> omega)).trans jl
      have kr : W.heap[rb]? = _ := (hU.block rb (by omega) (by rintro (e | e) <;> omega)).trans jr
      have p1 := cell_at (o := 0) kn
      have p2 := cell_at (o := 0) kl
      have p3 := cell_at (o := 0) kat
      have p4 := cell_at (o := 0) kr
      have p5 := frozen_of_heap (o := 0) kr
      have hD' : B ≤ D9 := by rw [← hB]; exact hD
      have HBF : Hid (Below n0 w W) := (unhide HZ _ (unhide HBW)).trans ⟨hU.os, hU.tape, hU.output, hU.size, fun k hk => hU.block k (by omega) (by rintro (e | e) <;> omega)⟩
      have HM : Hid (Marks [{ target := .collected D9, args := #[] }] W) := (Marks.nil W).cons hK (fun c => by cases c)
      have HKR := hide kr
      have e1 : ((m : Int) == (m : Int)) = true := by simp
      have e2 : (((enc L).1.length : Int) == ((enc L).1.length : Int)) = true := by simp
      clear hseq i0 jl jr ja jn kat kn kl kr hU hK hD hfl
      gi_wp2
      refine ret_box res6 rfl (unhide HBF) (by omega) (unhide HKR) _ (unhide HM) (fun k c => ?_)
      rcases List.mem_cons.1 c with e | e
      · simp only [Deferred.mk.injEq, Target.collected.injEq, and_true] at e
        omega
      · cases e
  · skip
    obtain ⟨D, hD⟩ : ∃ D, (dec l).2 = D := ⟨_, rfl⟩
    have hne : (D == 0) = false := by rw [← hD]; simpa using hd
    rw [hD] at HD
    obtain ⟨E, hE⟩ : ∃ E, (enc L).2 = E := ⟨_, rfl⟩
    have hne2 : (E != 0) = true := by rw [← hE]; simpa using he
    rw [hE] at HE
    clear hd hD he hE HDOK HDE
    refine (callsIn_wide (n := 3)).1 ?_
    refine callsIn_of_wp_marks Tryd.func6 rfl trivial ?_ rfl
    simp only [Tryd.ntmps6, List.size_toArray, List.length_cons, List.length_nil, Nat.reduceAdd, Nat.reduceSub, Array.replicate_succ, Array.replicate_zero, List.push_toArray, List.append_toArray, List.nil_append, List.cons_append]
    gi_wp2_with fail
    rw [unhide HW0]
    try rw [hn0]
    try rw [hrb]
    refine ⟨trivial, ((callsIn_wide).2 (live_any (unhide HT _ hb0))).mono ?_⟩
    rintro e z1 ⟨rfl, hb1⟩
    have HB1 := hide hb1
    clear hb1
    gi_wp2_with fail
    refine ⟨trivial, ((callsIn_wide).2 (unhide HD _ (unhide HZ _ (unhide HB1)))).mono ?_⟩
    rintro e z2 ⟨x2, rfl, hb2, ho2⟩
    have HB2 : Hid (Below W0.heap.size W0 z2) := (unhide HB1).trans (hb2.mono (unhide HB1).size)
    have hs2 := (own_sees iC_len (by decide) ho2).2
    obtain ⟨a2, c2, rfl⟩ := own_shape ho2
    have HS2 := hide hs2
    clear hb2 ho2 hs2
    obtain ⟨kl, kr, hlt⟩ := unhide HK _ (unhide HB2)
    have ql := cell_at (o := 0) kl
    have HKL := hide kl
    have HKR := hide kr
    clear kl kr
    gi_wp2_with fail
    refine ⟨trivial, ((callsIn_wide).2 (unhide HE _ (unhide HZ _ (unhide HB2)))).mono ?_⟩
    rintro e z5 ⟨x5, rfl, hb5, ho5⟩
    have HB5 : Hid (Below W0.heap.size W0 z5) := (unhide HB2).trans (hb5.mono (unhide HB2).size)
    have HO5 := hide ho5
    obtain ⟨a5, c5, rfl⟩ := own_shape ho5
    obtain ⟨kl5, kr5, hlt5⟩ := unhide HK _ (unhide HB5)
    have qr5 := cell_at (o := 0) kr5
    have fr5 := frozen_of_heap (o := 0) kr5
    have HKR5 := hide kr5
    clear hb5 ho5 ql kl5 kr5
    gi_wp2
    exact ret_box res6 rfl (unhide HZ _ (unhide HB5)) (by omega) (unhide HKR5) [] (Marks.nil _) (fun k c => by cases c)
end Go.Proofs.YtknpfippdddnhaaDoor
