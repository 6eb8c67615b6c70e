/- Record: the document's EntryForm. -/
import Derived.Test.YtggllgimlfchhaaGreatPF
import Derived.Test.YtggllgimlfchhaaGreatDF
namespace Go.Proofs.YtggllgimlfchhaaGreat
open Go.RowKit
set_option maxRecDepth 100000

theorem wpList_append_wanted {P : Program} {w w' : World} {ops : Array Oper} {rest : List Oper} {o : Oper} {a : Act} {Q : Exit → Act → World → Prop} {v sv v' : Value} (hw : Region.wanted o (yielded ops a.tmps) = true) (s x : Operand) (t : TypeId)
    (ho : o.op = .call { callee := .builtin .append, args := #[s, x], argTypes := #[t, t] }) (hs : a.eval s = v) (hx : a.eval x = sv) (hr : (Builtin.append_ #[t, t] o.type #[v, sv]).run P w = .ok v' w') (h : wpList P ops Q rest (a.put o.dst v') w') : wpList P ops Q (o :: rest) a w := by
  unfold wpList
  rw [if_pos hw]
  exact Or.inl (append_upon ho hs hx hr h)
theorem putL_app (a b : List Int) : putL (a ++ b) = putL a ++ putL b := by
  induction a with
  | nil => rfl
  | cons x r ih => simp only [List.cons_append, putL, ih, List.append_assoc]

set_option maxHeartbeats 1600000 in
theorem entryForm_any (cs : Array Value) (e : EntD) (w : World) (hE : SeesE w cs e) (hf : FitE e) (hm : mayE e = true) :
    Calls Tryz.prog 38 #[.agg cs] w fun r w' => ∃ v, r = .returned v ∧ w'.ownsRow w.heap.size 5 1 v (entB e).length (ints .u8 (entB e)) ∧ Below w.heap.size w w' := by
  have hkind := mayE_kind hm
  have HMM0 := hide hm
  obtain ⟨k, f, n, l⟩ := e
  obtain ⟨_, rfl, hs⟩ := hE
  obtain ⟨b0, b1, b2, b3, _⟩ := hf
  simp only at hs b0 b1 b2 b3 hkind ⊢
  have HS : Hid (∀ x, Below w.heap.size w x → SeesTs x _ l) := fun x hb => hs.below hb
  obtain ⟨ta, tc, _, _, rfl, hcap, hmax, _⟩ := hs
  have HFT := hide b3
  have hal : Below w.heap.size w (w.alloc (.cells #[.int .i64 k, .int .i64 f, .int .i64 n, .slice ta l.length tc] 29)) := (Below.refl _ _).alloc (Nat.le_refl _) _
  have hx1 : (w.alloc (.cells #[.int .i64 k, .int .i64 f, .int .i64 n, .slice ta l.length tc] 29)).heap[w.heap.size]? = some (.cells #[.int .i64 k, .int .i64 f, .int .i64 n, .slice ta l.length tc] 29) := heap_alloc_new w _
  obtain ⟨w1, hw1⟩ : ∃ y, (w.alloc (.cells #[.int .i64 k, .int .i64 f, .int .i64 n, .slice ta l.length tc] 29)) = y := ⟨_, rfl⟩
  have hsz : w1.heap.size = w.heap.size + 1 := by rw [← hw1]; simp
  rw [hw1] at hal hx1
  obtain ⟨tl, htl⟩ : ∃ n, l.length = n := ⟨_, rfl⟩
  rw [htl] at HS hw1 hcap hmax hx1
  rw [htl]
  have HTL := hide htl
  clear htl
  have HX : Hid (∀ x, Below (w.heap.size + 1) w1 x → x.heap[w.heap.size]? = some (.cells #[.int .i64 k, .int .i64 f, .int .i64 n, .slice ta tl tc] 29)) := fun x hb => (hb.block _ (by omega)).trans hx1
  have HBW : Hid (∀ x, Below (w.heap.size + 1) w1 x → Below w.heap.size w x) := fun x hb => hal.trans (hb.mono (by omega))
  have c0 : w1.cell? ⟨w.heap.size, 0, none⟩ = some (.int .i64 k) := cell_of_heap hx1
  have hz1 : Below w1.heap.size w1 (w1.alloc (.cells #[.int .i64 k] 2)) := (Below.refl _ _).alloc (Nat.le_refl _) _
  have HN1 := hide (refn_any (.slice none 0 0) _ [] [k] _ (Sees.nil _ _) (sees_lit w1 [k] (by simp)) (by simp) (i64_of fun x hx => by simp at hx; subst hx; exact b0) (by have : sizeL [k] ≤ 9 := sizeL_le [k]; simp; omega))
  simp only [List.length_cons, List.length_nil, Nat.reduceAdd, List.nil_append] at HN1
  rw [hsz] at HN1
  have HZ1 : Hid (Below (w.heap.size + 1) w1 (w1.alloc (.cells #[.int .i64 k] 2))) := hz1.mono (by omega)
  clear hal hx1 hz1 b0 b3
  go_enter Tryz.func38, Tryz.ntmps38
  go_wp2_with (rw [hw1])
  refine (unhide HN1).mono ?_
  rintro e y1 ⟨v1, rfl, o1, r1⟩
  have hB1 : Below (w.heap.size + 1) w1 y1 := (unhide HZ1).trans (r1.mono (unhide HZ1).size |>.mono (by have := (unhide HZ1).size; omega))
  have HB1 := hide hB1
  have O1 : Hid (y1.ownsRow (w.heap.size + 1) 5 1 v1 (putL [k]).length (ints .u8 (putL [k]))) := own_mono o1 (by simp; omega)
  have hx := unhide HX y1 hB1
  have d0 : y1.cell? ⟨w.heap.size, 0, none⟩ = some (.int .i64 k) := cell_of_heap hx
  have d1 : y1.cell? ⟨w.heap.size, 1, none⟩ = some (.int .i64 f) := cell_of_heap hx
  have d2 : y1.cell? ⟨w.heap.size, 2, none⟩ = some (.int .i64 n) := cell_of_heap hx
  have d3 : y1.cell? ⟨w.heap.size, 3, none⟩ = some (.slice ta tl tc) := cell_of_heap hx
  clear o1 r1 hB1 hx HN1 c0 HZ1
  rcases hkind with rfl | rfl
  · have HF : Hid (y1.ownsRow w.heap.size 5 1 v1 (entB ⟨0, f, n, l⟩).length (ints .u8 (entB ⟨0, f, n, l⟩)) ∧ Below w.heap.size w y1) := by
      have e1 : entB ⟨0, f, n, l⟩ = putL [0] := by simp [entB]
      show _ ∧ _
      rw [e1]
      exact ⟨own_mono (unhide O1) (by omega), unhide HBW _ (unhide HB1)⟩
    go_wp2
    go_ret
    exact ⟨_, rfl, unhide HF⟩
  have HMM : Hid (mayE ⟨1, f, n, l⟩ = true) := unhide HMM0
  obtain ⟨m1, m2⟩ := mayE_one hm rfl
  simp only at m1 m2
  have HM := hide m2
  obtain ⟨a1, cc1, rfl⟩ := own_shape (unhide O1)
  have hz2 : Below y1.heap.size y1 (y1.alloc (.cells #[.int .i64 f, .int .i64 n, .int .i64 (tl : Int)] 2)) := (Below.refl _ _).alloc (Nat.le_refl _) _
  have HN2 := hide (refn_any _ _ (putL [1]) [f, n, (tl : Int)] _ ((sees_of_own (unhide O1)).2.below hz2) (sees_lit y1 [f, n, (tl : Int)] (by simp)) (by simp) (i64_of fun x hx => by simp at hx; rcases hx with rfl | rfl | rfl; exact b1; exact b2; omega) (by
    have h1 : sizeL [f, n, (tl : Int)] ≤ 27 := sizeL_le [f, n, (tl : Int)]
    have h2 := putL_le [(1 : Int)]
    simp only [List.length_cons, List.length_nil] at h2
    omega))
  simp only [List.length_cons, List.length_nil, Nat.reduceAdd] at HN2
  have HZ2 : Hid (Below (w.heap.size + 1) w1 (y1.alloc (.cells #[.int .i64 f, .int .i64 n, .int .i64 (tl : Int)] 2))) := (unhide HB1).trans (hz2.mono (by have := (unhide HB1).size; omega))
  clear hz2 b1 b2 m1 m2 hm
  go_wp2_with fail
  refine (unhide HN2).mono ?_
  rintro e y2 ⟨v2, rfl, o2, r2⟩
  have HR : Hid (y2.ownsRow (w.heap.size + 1) 5 1 v2 (putL [1] ++ putL [f, n, (tl : Int)] ++ txnsB (l.take 0)).length (ints .u8 (putL [1] ++ putL [f, n, (tl : Int)] ++ txnsB (l.take 0))) ∧ Below (w.heap.size + 1) w1 y2) := ⟨by
    have := own_mono o2 (by have := (unhide HZ2).size; omega : w.heap.size + 1 ≤ _)
    simpa [txnsB] using this, (unhide HZ2).trans (r2.mono (by have := (unhide HZ2).size; omega))⟩
  clear o2 r2 HN2 HZ2 O1 HB1 d0 d1 d2 d3
  go_wp2
  go_loopw [3, 4] (fun b c wr => ∃ t : Nat, t ≤ tl ∧ c = .int .i64 t ∧ wr.ownsRow (w.heap.size + 1) 5 1 b (putL [1] ++ putL [f, n, (tl : Int)] ++ txnsB (l.take t)).length (ints .u8 (putL [1] ++ putL [f, n, (tl : Int)] ++ txnsB (l.take t))) ∧ Below (w.heap.size + 1) w1 wr) (fun _ c _ => tl - (intOf c).toNat)
  case atStart => exact ⟨0, by omega, rfl, (unhide HR).1, (unhide HR).2⟩
  case round =>
    obtain ⟨t, ht, rfl, ho, hb⟩ := hrel
    have d3 : wr.cell? ⟨w.heap.size, 3, none⟩ = some (.slice ta tl tc) := cell_of_heap (unhide HX wr hb)
    by_cases hlt : t < tl
    · obtain ⟨ao', cap', ga, oa, hv, _, _, ha', h1⟩ := unhide HS wr (unhide HBW wr hb)
      simp only [Value.slice.injEq] at hv
      obtain ⟨rfl, hj, rfl⟩ := hv
      obtain rfl := ha' (by omega)
      have hlt1 : t < l.length := by omega
      obtain ⟨cvk, avk, rvk, wvk, kh0, kh1, kh2, kh3, kh4, kh5, khs⟩ := h1 t hlt1
      obtain ⟨k1, kc1, k2, kc2, k3, kc3, k4, kc4, rfl, rfl, rfl, rfl⟩ := khs.shape
      obtain ⟨kd, ke⟩ : ∃ d, l.getD t dT = d := ⟨_, rfl⟩
      rw [ke] at kh0 kh1 kh2 kh3 kh4 kh5 khs
      obtain ⟨ks, kes⟩ : ∃ n, kd.ses = n := ⟨_, rfl⟩
      obtain ⟨kq, keq⟩ : ∃ n, kd.req = n := ⟨_, rfl⟩
      obtain ⟨kn1, ke1⟩ : ∃ n, kd.code.length = n := ⟨_, rfl⟩
      obtain ⟨kn2, ke2⟩ : ∃ n, kd.args.length = n := ⟨_, rfl⟩
      obtain ⟨kn3, ke3⟩ : ∃ n, kd.reads.length = n := ⟨_, rfl⟩
      obtain ⟨kn4, ke4⟩ : ∃ n, kd.writes.length = n := ⟨_, rfl⟩
      rw [kes, keq, ke1, ke2, ke3, ke4] at khs
      rw [kes] at kh0
      rw [keq] at kh1
      rw [ke1] at kh2
      rw [ke2] at kh3
      rw [ke3] at kh4
      rw [ke4] at kh5
      have hmem : kd ∈ l := by
        have e : l.getD t dT = l[t] := by simp [List.getD, hlt1]
        rw [← ke, e]; exact List.getElem_mem hlt1
      have htk := take_txns l t hlt1
      rw [ke] at htk
      have hmt := unhide HM kd hmem
      have HTF := hide (txnForm_any _ kd wr khs (unhide HFT kd hmem) hmt)
      have hlen := txnsB_le (l := l.take t) (fun x hx => unhide HM x (List.mem_of_mem_take hx))
      have hkl := txnB_le hmt
      have hxl : (putL [1] ++ putL [f, n, (tl : Int)] ++ txnsB (l.take t)).length ≤ 1000000000 := by
        have l1 := putL_le [(1 : Int)]
        have l2 := putL_le [f, n, (tl : Int)]
        have hm16 : tl ≤ 16 := by have := (mayE_one (e := ⟨1, f, n, l⟩) (unhide HMM) rfl).1; have h2 := unhide HTL; simp only at this; omega
        simp only [List.length_append, List.length_cons, List.length_nil, List.length_take] at l1 l2 hlen ⊢
        omega
      obtain ⟨aB, cB, rfl⟩ := own_shape ho
      obtain ⟨XS, hXS⟩ : ∃ z, putL [1] ++ putL [f, n, (tl : Int)] ++ txnsB (l.take t) = z := ⟨_, rfl⟩
      rw [hXS] at ho hxl
      rw [hXS]
      have HO := hide ho
      have HB := hide hb
      have HTK := hide htk
      have HXS := hide hXS
      have HKL := hide hkl
      have HXL := hide hxl
      clear h1 ha' hj hmem htk hmt hlen hkl hxl ho hb hXS khs ke kes keq ke1 ke2 ke3 ke4
      obtain ⟨nB, hnB⟩ : ∃ z, XS.length = z := ⟨_, rfl⟩
      rw [hnB]
      have HNB := hide hnB
      clear hnB
      go_wp2_with fail
      refine (unhide HTF).mono ?_
      rintro e y3 ⟨v3, rfl, o3, r3⟩
      have hB3 : Below (w.heap.size + 1) w1 y3 := (unhide HB).trans (r3.mono (by have := (unhide HB).size; omega))
      have hs3 : w.heap.size + 1 ≤ y3.heap.size := by have := hB3.size; omega
      have hoB := own_below (unhide HO) r3
      obtain ⟨v6, w6, hr6, ho6, hg6⟩ := run_append_sees (w.heap.size + 1) _ XS hoB v3 (txnB kd) (sees_of_own o3).2 (by have := unhide HKL; have := unhide HXL; omega) hs3 23
      have hB6 : Below (w.heap.size + 1) w1 w6 := hB3.grown hg6 hs3 (own_block_le hoB)
      have HR6 : Hid (w6.ownsRow (w.heap.size + 1) 5 1 v6 (putL [1] ++ putL [f, n, (tl : Int)] ++ txnsB (l.take (t + 1))).length (ints .u8 (putL [1] ++ putL [f, n, (tl : Int)] ++ txnsB (l.take (t + 1)))) ∧ Below (w.heap.size + 1) w1 w6) := by
        show _ ∧ _
        rw [unhide HTK, ← List.append_assoc, unhide HXS]
        exact ⟨ho6, hB6⟩
      obtain ⟨a3, c3, rfl⟩ := own_shape o3
      rw [unhide HNB] at hr6
      obtain ⟨n3, hn3⟩ : ∃ z, (txnB kd).length = z := ⟨_, rfl⟩
      rw [hn3] at hr6
      rw [hn3]
      clear hB3 hs3 hoB ho6 hg6 hB6 o3 r3 hn3 HTF
      go_wp2_with (at_builtin; refine wpList_append_wanted (by rfl) _ _ 23 rfl rfl rfl hr6 ?_)
      go_roundw
      case rel => exact ⟨t + 1, by omega, by go_num, (unhide HR6).1, (unhide HR6).2⟩
      case measure => simp [intOf]; omega
    · obtain rfl : t = tl := by omega
      have e1 : entB ⟨1, f, n, l⟩ = putL [1] ++ putL [f, n, (t : Int)] ++ txnsB (l.take t) := by
        rw [List.take_of_length_le (by have := unhide HTL; omega)]
        have e2 : putL [f, n, (t : Int)] = putL [f, n] ++ putL [(t : Int)] := putL_app [f, n] [(t : Int)]
        rw [e2, ← unhide HTL]
        simp [entB, List.append_assoc]
      have ho2 := own_mono ho (Nat.le_succ w.heap.size)
      rw [← e1] at ho2
      have HF := hide (And.intro ho2 (unhide HBW _ hb))
      clear ho2 e1
      clear ho hb
      go_wp2
      go_ret
      exact ⟨_, rfl, unhide HF⟩
end Go.Proofs.YtggllgimlfchhaaGreat
