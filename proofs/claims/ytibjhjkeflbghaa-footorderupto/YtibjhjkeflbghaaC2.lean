/- Keys. -/
import Derived.Test.YtibjhjkeflbghaaP0
import Derived.Test.YtibjhjkeflbghaaKA
namespace Go.Proofs.Ytibjhjkeflbghaa
open Go.RowKit
set_option maxRecDepth 100000

theorem Try.under69 : Try.prog.underlying 69 = some (.map 37 70) := by kernel_rfl
/-- Where Keys stands: what came already. -/
structure KI (w : World) (mb : Nat) (wr : World) (v : Value) (D : List Ky) : Prop where
  own : wr.ownsRow w.heap.size 37 2 v D.length (D.flatMap kC)
  map : MapAt wr mb (D.map fun k => (k, .agg #[]))
  bel : Below w.heap.size w wr
  low : w.heap.size ≤ mb
theorem below_put {B : Nat} {w y : World} {mb : Nat} (hm : B ≤ mb) (h1 : ∀ j, j ≠ mb → y.heap[j]? = w.heap[j]?) (h2 : y.heap.size = w.heap.size) (h3 : y.os = w.os) (h4 : y.tape = w.tape) (h5 : y.output = w.output) : Below B w y :=
  ⟨h3, h4, h5, by omega, fun k hk => h1 k (by omega)⟩
theorem own_put {w y : World} {mb : Nat} {l : List (Ky × Value)} (hm : MapAt w mb l) (h1 : ∀ j, j ≠ mb → y.heap[j]? = w.heap[j]?) {base e size n : Nat} {v : Value} {xs : List Value} (h : w.ownsRow base e size v n xs) : y.ownsRow base e size v n xs := by
  refine ⟨h.1, ?_⟩
  rcases h.2 with hn | ⟨g, cap, cur, hv, hg, hh, r⟩
  · exact .inl hn
  · exact .inr ⟨g, cap, cur, hv, hg, (h1 g (hm.apart hh)).trans hh, r⟩
theorem map_grown {w w' : World} {mb : Nat} {l : List (Ky × Value)} (hm : MapAt w mb l) {base e size n : Nat} {v : Value} {xs : List Value} (ho : w.ownsRow base e size v n xs) (hg : w.grownBy w' v.ownBlock) : MapAt w' mb l := by
  refine hm.keep (hg.block mb hm.lt fun hk => ?_)
  rcases ho.2 with ⟨rfl, _⟩ | ⟨g, cap, cur, rfl, _, hh, _⟩
  · simp [Value.ownBlock] at hk
  · simp only [Value.ownBlock, Option.some.injEq] at hk
    exact hm.apart hh hk.symm
theorem own_block_le {w : World} {base : Nat} {e size : Nat} {v : Value} {n : Nat} {xs : List Value} (h : w.ownsRow base e size v n xs) : ∀ k, v.ownBlock = some k → base ≤ k := fun k hk => (h.lt k hk).1
theorem KI.start (w : World) : KI w w.heap.size (w.alloc (.map #[] 0)) (.slice none 0 0) [] :=
  ⟨own_nil _ _ _ _, ⟨#[], 0, heap_alloc_new w _, rfl⟩, (Below.refl _ _).alloc (Nat.le_refl _) _, Nat.le_refl _⟩
theorem KI.okm {D : List Ky} (hD : ∀ k ∈ D, OkK k) : ∀ q ∈ D.map fun k => (k, Value.agg #[]), OkK q.1 := fun q hq => by
  obtain ⟨k, hk, rfl⟩ := List.mem_map.1 hq
  exact hD k hk
theorem KI.hit {w wr y : World} {mb : Nat} {v : Value} {D : List Ky} (h : KI w mb wr v D) (hb : Below wr.heap.size wr y) (hD : ∀ k ∈ D, OkK k) (hn : D.Nodup) {a b : Int} (hin : (a, b) ∈ D) :
    (Instr.lookup 69 (.map (some mb)) (.agg #[.int .i32 a, .int .i64 b]) true).run Try.prog y = .ok (.tuple #[.agg #[], .bool true]) y :=
  look_has Try.under69 (k := (a, b)) (h.map.below hb) (KI.okm hD) (by rw [List.map_map]; have e : ((fun x : Ky × Value => x.1) ∘ fun k : Ky => (k, Value.agg #[])) = id := rfl; rw [e, List.map_id]; exact hn) (List.mem_map.2 ⟨_, hin, rfl⟩)
theorem KI.miss {w wr y : World} {mb : Nat} {v : Value} {D : List Ky} (h : KI w mb wr v D) (hb : Below wr.heap.size wr y) (hD : ∀ k ∈ D, OkK k) {a b : Int} (hk : OkK (a, b)) (hin : (a, b) ∉ D) :
    (Instr.lookup 69 (.map (some mb)) (.agg #[.int .i32 a, .int .i64 b]) true).run Try.prog y = .ok (.tuple #[.agg #[], .bool false]) y :=
  look_no Try.under69 (z := .agg #[]) Try.zeroValue70 (k := (a, b)) (h.map.below hb) (KI.okm hD) hk fun q hq => by
    obtain ⟨k, hk, rfl⟩ := List.mem_map.1 hq
    exact fun e => hin (e ▸ hk)
theorem KI.grow {w wr y : World} {mb : Nat} {v : Value} {D : List Ky} (h : KI w mb wr v D) (hb : Below wr.heap.size wr y) : KI w mb y v D :=
  ⟨own_below h.own hb, h.map.below hb, h.bel.trans (hb.mono h.bel.size), h.low⟩
/-- A key more. -/
theorem KI.more {w wr y : World} {mb : Nat} {v : Value} {D : List Ky} (h : KI w mb wr v D) (hb : Below wr.heap.size wr y) (hD : ∀ k ∈ D, OkK k) {a b : Int} (hk : OkK (a, b)) (hin : (a, b) ∉ D) (hl : D.length < 8796093022208) (ty : TypeId) :
    ∃ y3 ao n cap y5 ao' cap', v = .slice ao n cap ∧ (Instr.mapUpdate 69 (.map (some mb)) (.agg #[.int .i32 a, .int .i64 b]) (.agg #[])).run Try.prog y = .ok () y3 ∧ (∀ j, j ≠ mb → y3.heap[j]? = y.heap[j]?) ∧
      (Builtin.append_ #[24, 24] ty #[v, .slice (some ⟨y3.heap.size, 0, none⟩) 1 1]).run Try.prog (y3.alloc (.cells #[.int .i32 a, .int .i64 b] 37)) = .ok (.slice ao' (D.length + 1) cap') y5 ∧ KI w mb y5 (.slice ao' (D.length + 1) cap') (D ++ [(a, b)]) := by
  have hmy := h.map.below hb
  have hoy := own_below h.own hb
  obtain ⟨y3, r1, m3, o3, z3, q1, q2, q3⟩ := put_new (k := (a, b)) Try.under69 hmy (KI.okm hD) hk (fun q hq => by
    obtain ⟨k, hk, rfl⟩ := List.mem_map.1 hq
    exact fun e => hin (e ▸ hk)) (.agg #[])
  have hby : Below w.heap.size w y := h.bel.trans (hb.mono h.bel.size)
  have hb3 : Below w.heap.size w y3 := hby.trans (below_put h.low o3 z3 q1 q2 q3)
  have ho3 := own_put hmy o3 hoy
  have hal : Below y3.heap.size y3 (y3.alloc (.cells #[.int .i32 a, .int .i64 b] 37)) := below_box _
  have ho4 := own_below ho3 hal
  have hm4 := m3.below hal
  have hb4 : Below w.heap.size w (y3.alloc (.cells #[.int .i32 a, .int .i64 b] 37)) := hb3.trans (hal.mono hb3.size)
  obtain ⟨v', y5, r2, ho5, hg5⟩ := append_keys ty ho4 (sees_oneK y3 (a, b)) (by simp only [List.length_cons, List.length_nil]; omega) hb4.size
  obtain ⟨ao, cap, hv⟩ := own_shape h.own
  obtain ⟨ao', cap', hv'⟩ := own_shape ho5
  have hv'' : v' = .slice ao' (D.length + 1) cap' := hv'
  refine ⟨y3, ao, _, cap, y5, ao', cap', hv, r1, o3, by rw [← hv'']; exact r2, ?_⟩
  rw [← hv'']
  refine ⟨by simpa using ho5, ?_, hb4.trans ((Below.refl _ _).grown hg5 hb4.size (own_block_le ho4)), h.low⟩
  have := map_grown hm4 ho4 hg5
  rw [List.map_append]
  exact this

set_option maxHeartbeats 3200000 in
theorem keys_any {v : Value} {l : List Ky} {w : World} (hs : SeesL kC 2 w v l) (hok : ∀ k ∈ l, OkK k) (hll : l.length ≤ 8796093022208) :
    Calls Try.prog 39 #[v] w fun e w' => ∃ r, e = .returned r ∧ w'.ownsRow w.heap.size 37 2 r (srt l).length ((srt l).flatMap kC) ∧ Below w.heap.size w w' := by
  have HS : Hid (∀ w', Below w.heap.size w w' → SeesL kC 2 w' v l) := fun w' hb => hs.below kC_len hb
  have HO : Hid (∀ t, ∀ k ∈ dd (l.take t), OkK k) := fun t k hk => hok k (List.mem_of_mem_take ((dd_mem _ k).1 hk))
  have HOK := hide hok
  obtain ⟨ao, cap, _, _, hv, hcap, hmax, _⟩ := SeesL.key hs
  have HV := hide hv
  obtain ⟨n, hn⟩ : ∃ n, l.length = n := ⟨_, rfl⟩
  rw [hv, hn]
  have HN := hide hn
  rw [hn] at hcap hmax hll
  have HK0 := hide (KI.start w)
  obtain ⟨y, hy⟩ : ∃ y, w.alloc (.map #[] 0) = y := ⟨_, rfl⟩
  rw [hy] at HK0
  clear hs hv hn hok
  have hmk : (Instr.makeMap 69 none).run Try.prog w = .ok (.map (some w.heap.size)) y := by rw [← hy]; rfl
  go_enter Try.func39, Try.ntmps39
  go_wp2_with (rw [hy])
  go_loopw [3, 12] (fun o c wr => ∃ t : Nat, t ≤ n ∧ c = .int .i64 t ∧ KI w w.heap.size wr o (dd (l.take t))) (fun _ c _ => n - (intOf c).toNat)
  case atStart => exact ⟨0, by omega, rfl, unhide HK0⟩
  case round =>
    obtain ⟨t, ht, rfl, hki⟩ := hrel
    have HKI := hide hki
    by_cases hlt : t < n
    · obtain ⟨ao', cap', gb, ob, hv', _, _, hao, hcl⟩ := SeesL.key (unhide HS wr hki.bel)
      rw [unhide HV] at hv'
      simp only [Value.slice.injEq, true_and] at hv'
      obtain ⟨rfl, rfl⟩ := hv'
      have hnl := unhide HN
      obtain rfl := hao (by omega)
      obtain ⟨g1, g2⟩ := hcl t (by omega)
      have htl : t < l.length := by omega
      obtain ⟨⟨a, b⟩, hx⟩ : ∃ k, l.getD t default = k := ⟨_, rfl⟩
      have hx' : l[t] = (a, b) := by rw [← hx]; simp [List.getD, htl]
      rw [hx] at g1 g2
      have hokx : OkK (a, b) := hx' ▸ unhide HOK _ (List.getElem_mem htl)
      have hdd : dd (l.take (t + 1)) = addK (dd (l.take t)) (a, b) := by
        rw [List.take_succ_eq_append_getElem htl, dd_snoc, hx']
      have hlen : (dd (l.take t)).length ≤ t := Nat.le_trans (dd_len _) (by simp; omega)
      have HDD := hide hdd
      obtain ⟨ov, oc, hov⟩ := own_shape hki.own
      obtain ⟨y1, hy1⟩ : ∃ y, wr.alloc (.cells #[.int .i32 a, .int .i64 b] 37) = y := ⟨_, rfl⟩
      obtain ⟨y2, hy2⟩ : ∃ y, y1.alloc (.cells #[] 70) = y := ⟨_, rfl⟩
      have b1 : Below wr.heap.size wr y1 := hy1 ▸ below_box _
      have hz1 : y1.heap.size = wr.heap.size + 1 := by rw [← hy1]; simp
      have b2 : Below wr.heap.size wr y2 := hy2 ▸ b1.alloc b1.size _
      have x1 : y1.heap[wr.heap.size]? = some (.cells #[.int .i32 a, .int .i64 b] 37) := by rw [← hy1]; exact heap_alloc_new wr _
      have x2 : y2.heap[wr.heap.size]? = some (.cells #[.int .i32 a, .int .i64 b] 37) := by rw [← hy2]; exact (Below.heap_alloc y1 _ _ (by omega)).trans x1
      have c1 : y1.cell? ⟨wr.heap.size, 0, none⟩ = some (.int .i32 a) := cell_at x1
      have c2 : y1.cell? ⟨wr.heap.size, 1, none⟩ = some (.int .i64 b) := cell_at x1
      have c3 : y2.cell? ⟨wr.heap.size, 0, none⟩ = some (.int .i32 a) := cell_at x2
      have c4 : y2.cell? ⟨wr.heap.size, 1, none⟩ = some (.int .i64 b) := cell_at x2
      have HB2 := hide b2
      have HH1 := hide x1
      by_cases hin : (a, b) ∈ dd (l.take t)
      · have hL := hki.hit b1 (unhide HO t) (dd_nodup _) hin
        have HR : Hid (KI w w.heap.size y2 (.slice ov (dd (l.take t)).length oc) (dd (l.take (t + 1)))) := by
          rw [hdd, addK, if_pos hin, ← hov]
          exact hki.grow b2
        subst hov
        clear hcl hao hx hx' hnl hki hdd b1 b2 x1 x2 hz1 hin hokx hlen htl
        go_wp2_with (first | rw [hy1] | rw [hy2])
        go_roundw
        case rel => exact ⟨t + 1, by omega, by go_num, unhide HR⟩
        case measure => simp [intOf]; omega
      · have hL := hki.miss b1 (unhide HO t) hokx hin
        obtain ⟨y3, ao3, n3, cap3, y5, ao5, cap5, hv3, r1, o3, r2, hk5⟩ := hki.more b2 (unhide HO t) hokx hin (by omega) 24
        have HR : Hid (KI w w.heap.size y5 (.slice ao5 ((dd (l.take t)).length + 1) cap5) (dd (l.take (t + 1)))) := by
          rw [hdd, addK, if_neg hin]
          exact hk5
        have x3 : y3.heap[wr.heap.size]? = some (.cells #[.int .i32 a, .int .i64 b] 37) := (o3 _ (hki.map.below b2 |>.apart x2)).trans x2
        have c5 : y3.cell? ⟨wr.heap.size, 0, none⟩ = some (.int .i32 a) := cell_at x3
        have c6 : y3.cell? ⟨wr.heap.size, 1, none⟩ = some (.int .i64 b) := cell_at x3
        obtain ⟨m, hm⟩ : ∃ m, (dd (l.take t)).length = m := ⟨_, rfl⟩
        rw [hov] at r2
        rw [hm] at r2 HR hov
        subst hov
        clear hcl hao hx hx' hnl hki hdd b1 b2 x1 x2 x3 hz1 hin hokx hlen hk5 o3 hv3 hm htl
        go_wp2_with (first | rw [hy1] | rw [hy2] | (refine wpList_append_wanted (by rfl) _ _ 24 rfl rfl rfl r2 ?_))
        go_roundw
        case rel => exact ⟨t + 1, by omega, by go_num, unhide HR⟩
        case measure => simp [intOf]; omega
    · obtain rfl : t = n := by omega
      have hnl := unhide HN
      rw [List.take_of_length_le (by omega)] at hki
      have hlen := dd_len l
      have HC := hide (sortK_any hki.own (dd_nodup l) hki.bel.size (by omega))
      have HB := hide hki.bel
      obtain ⟨ov, oc, hov⟩ := own_shape hki.own
      subst hov
      obtain ⟨m, hm⟩ : ∃ m, (dd l).length = m := ⟨_, rfl⟩
      have HM := hide hm
      rw [hm] at HC
      rw [hm]
      clear hki hnl hlen hm
      go_wp2_with (go_at_call 54; refine (unhide HC).mono ?_; rintro e w1 ⟨rfl, D', ho, hr, hp, hb1⟩; have HF := hide (And.intro ho (And.intro hr (And.intro hp hb1))); clear ho hr hp hb1)
      go_ret
      obtain ⟨ho, hr, hp, hb1⟩ := unhide HF
      have e := dd_sorted hp hr
      subst e
      have hl2 : (srt l).length = m := hp.length_eq.trans (unhide HM)
      exact ⟨_, rfl, by rw [hl2]; exact ho, (unhide HB).trans hb1⟩
end Go.Proofs.Ytibjhjkeflbghaa
