/- Record: Marshal. -/
import Derived.Test.YtggllgimlfchhabGreatJE
import Derived.Test.YtggllgimlfchhabGreatKH
import Derived.Test.YtggllgimlfchhabGreatKG
import Derived.Test.YtggllgimlfchhabGreatJM
namespace Go.Proofs.YtggllgimlfchhabGreat
open Go.RowKit
set_option maxRecDepth 100000

theorem putL_byt (l : List Int) : Byt (putL l) := by
  induction l with
  | nil => intro b hb; cases hb
  | cons x r ih => exact Byt.append (numB_byte x) ih
theorem txnB_byt {t : TxnD} (hf : FitT t) : Byt (txnB t) := by
  unfold txnB
  exact (((((putL_byt _).append ((putL_byt _).append hf.code)).append (putL_byt _)).append (putL_byt _)).append (putL_byt _)).append (putL_byt _)

theorem byt_flat {ls : List (List Int)} (h : ∀ l ∈ ls, Byt l) : Byt ls.flatten := fun b hb => by
  obtain ⟨l, hl, hb⟩ := List.mem_flatten.1 hb
  exact h l hl b hb
theorem entB_byt {e : EntD} (hf : FitE e) : Byt (entB e) := by
  unfold entB
  refine (putL_byt _).append ?_
  split
  · refine (putL_byt _).append ((putL_byt _).append (byt_flat fun l hl => ?_))
    obtain ⟨t, ht, rfl⟩ := List.mem_map.1 hl
    exact txnB_byt (hf.txns t ht)
  · exact byt_nil
theorem msgB_byt {m : MsgD} (hf : FitM m) (ho : OkM m) : Byt (msgB m) := by
  unfold msgB
  refine (putL_byt _).append (byt_flat fun l hl => ?_)
  obtain ⟨f, _, rfl⟩ := List.mem_map.1 hl
  unfold fB
  split
  · exact putL_byt _
  split
  · exact putL_byt _
  split
  · exact putL_byt _
  split
  · exact putL_byt _
  split
  · exact putL_byt _
  split
  · refine (putL_byt _).append (byt_flat fun l hl => ?_)
    obtain ⟨t, ht, rfl⟩ := List.mem_map.1 hl
    exact (putL_byt _).append (entB_byt (hf.list t ht).ent)
  split
  · exact entB_byt hf.ent
  · exact (putL_byt _).append ((putL_byt _).append ho.part)
theorem msgB_le {m : MsgD} (hm : mayMsg m = true) : (msgB m).length ≤ 140737488355328 := by
  have hall := mayMsg_fields hm
  have h5 := fieldsL_len m.kind
  have hb : ∀ f ∈ fieldsL m.kind, (fB f m).length ≤ 200000000 := fun f hf => by
    have p := fun q : Int => putL_le [q]
    simp only [List.length_cons, List.length_nil] at p
    have hm1 := hall f hf
    have hr := fieldsL_le m.kind f hf
    by_cases f0 : f = 0
    case pos =>
      subst f0
      have e : fB 0 m = putL [m.term] := by simp [fB]
      rw [e]
      have := p (m.term)
      omega
    by_cases f1 : f = 1
    case pos =>
      subst f1
      have e : fB 1 m = putL [m.slot] := by simp [fB]
      rw [e]
      have := p (m.slot)
      omega
    by_cases f2 : f = 2
    case pos =>
      subst f2
      have e : fB 2 m = putL [m.last] := by simp [fB]
      rw [e]
      have := p (m.last)
      omega
    by_cases f3 : f = 3
    case pos =>
      subst f3
      have e : fB 3 m = putL [m.commit] := by simp [fB]
      rw [e]
      have := p (m.commit)
      omega
    by_cases f4 : f = 4
    case pos =>
      subst f4
      have e : fB 4 m = putL [if m.yes then 1 else 0] := by simp [fB]
      rw [e]
      have := p (if m.yes then 1 else 0)
      omega
    by_cases f5 : f = 5
    case pos =>
      subst f5
      have e : fB 5 m = putL [(m.list.length : Int)] ++ tmsB m.list := by simp [fB]
      rw [e, List.length_append]
      have hm2 : (decide (m.list.length ≤ 4096) && m.list.all mayTm) = true := by simpa [fMay] using hm1
      simp only [Bool.and_eq_true, decide_eq_true_eq, List.all_eq_true] at hm2
      have h1 := p (m.list.length : Int)
      have h2 := tmsB_le (l := m.list) (fun t ht => by have := hm2.2 t ht; simp only [mayTm, Bool.and_eq_true] at this; exact this.2)
      omega
    by_cases f6 : f = 6
    case pos =>
      subst f6
      have e : fB 6 m = entB m.ent := by simp [fB]
      rw [e]
      have hm2 : mayE m.ent = true := by simpa [fMay] using hm1
      have := entB_le hm2
      omega
    obtain rfl : f = 7 := by omega
    have e : fB 7 m = ptB m.part := by simp [fB]
    rw [e]
    have hm2 : mayP m.part = true := by simpa [fMay] using hm1
    simp only [mayP, Bool.and_eq_true, decide_eq_true_eq] at hm2
    have h1 := putL_le [m.part.slot, m.part.idx, m.part.many]
    have h2 := p (m.part.data.length : Int)
    unfold ptB
    simp only [List.length_append, List.length_cons, List.length_nil] at h1 ⊢
    omega
  have hs : ∀ L : List Int, (∀ f ∈ L, (fB f m).length ≤ 200000000) → (flsB L m).length ≤ 200000000 * L.length := fun L => by
    induction L with
    | nil => intro _; simp [flsB]
    | cons f r ih =>
      intro h
      have h1 := h f (List.mem_cons_self ..)
      have h2 := ih (fun x hx => h x (List.mem_cons_of_mem _ hx))
      have e : flsB (f :: r) m = fB f m ++ flsB r m := by simp [flsB]
      rw [e, List.length_append, List.length_cons]
      omega
  have h1 := hs _ hb
  have h2 := putL_le [m.kind, m.frm, m.to]
  unfold msgB
  simp only [List.length_append, List.length_cons, List.length_nil] at h2 ⊢
  omega
def marE (m : MsgD) : Int := if mayMsg m then (if 1048576 < (msgB m).length then 3 else 0) else 40
def marB (m : MsgD) : List Int := if marE m = 0 then sealB (msgB m) else []

set_option maxHeartbeats 1600000 in
theorem marshal_any (cs : Array Value) (m : MsgD) (w : World) (hM : SeesM w cs m) (oM : OkM m) (hfit : FitM m)
    (hk : -9223372036854775808 ≤ m.kind ∧ m.kind ≤ 9223372036854775807) (hf : -9223372036854775808 ≤ m.frm ∧ m.frm ≤ 9223372036854775807) (ht : -9223372036854775808 ≤ m.to ∧ m.to ≤ 9223372036854775807) :
    Calls Tryz.prog 11 #[.agg cs] w fun r w' => ∃ x, r = .returned (.tuple #[x, .int .i64 (marE m)]) ∧ w'.ownsRow w.heap.size 5 1 x (marB m).length (ints .u8 (marB m)) ∧ Below w.heap.size w w' := by
  have HMB : Hid (∀ x, Below w.heap.size w x → Calls Tryz.prog 32 #[.agg cs] x fun e y => e = .returned (.bool (mayMsg m)) ∧ Below x.heap.size x y) := fun x hx => messageMayBe_any cs m x (hM.below hx) oM
  have HME : Hid (mayMsg m = true → ∀ (x : World) (B lo : Nat), Wr x B lo [] → Below w.heap.size w x → w.heap.size ≤ B → Calls Tryz.prog 34 #[.agg #[.pointer (some ⟨B, 0, none⟩), .pointer (some ⟨B, 0, none⟩), .pointer (some ⟨B, 0, none⟩)], .agg cs] x fun e w' => e = .returned (.tuple #[]) ∧ Wr w' B lo (msgB m) ∧ Wrote B lo x w') := fun hm x B lo hx hb hB => message_any hx cs m hM hb hB hfit hk hf ht hm
  have HBY := hide (msgB_byt hfit oM)
  obtain ⟨aK, aF, aO, aT, aS, aL, aC, aY, la, ll, lc, ek, ef, en, ta, tl, tc, ps, pi, pm, da, dl, dc, rfl, _, _, _⟩ := hM.shape
  have hal : Below w.heap.size w (w.alloc (.cells #[.int .i64 aK, .int .i64 aF, .int .i64 aO, .int .i64 aT, .int .i64 aS, .int .i64 aL, .int .i64 aC, .bool aY, .slice la ll lc, .int .i64 ek, .int .i64 ef, .int .i64 en, .slice ta tl tc, .int .i64 ps, .int .i64 pi, .int .i64 pm, .slice da dl dc] 30)) := (Below.refl _ _).alloc (Nat.le_refl _) _
  have HW1 : Hid ((w.alloc (.cells #[.int .i64 aK, .int .i64 aF, .int .i64 aO, .int .i64 aT, .int .i64 aS, .int .i64 aL, .int .i64 aC, .bool aY, .slice la ll lc, .int .i64 ek, .int .i64 ef, .int .i64 en, .slice ta tl tc, .int .i64 ps, .int .i64 pi, .int .i64 pm, .slice da dl dc] 30)).heap[w.heap.size]? = some (.cells #[.int .i64 aK, .int .i64 aF, .int .i64 aO, .int .i64 aT, .int .i64 aS, .int .i64 aL, .int .i64 aC, .bool aY, .slice la ll lc, .int .i64 ek, .int .i64 ef, .int .i64 en, .slice ta tl tc, .int .i64 ps, .int .i64 pi, .int .i64 pm, .slice da dl dc] 30)) := heap_alloc_new w _
  have hs1 : (w.alloc (.cells #[.int .i64 aK, .int .i64 aF, .int .i64 aO, .int .i64 aT, .int .i64 aS, .int .i64 aL, .int .i64 aC, .bool aY, .slice la ll lc, .int .i64 ek, .int .i64 ef, .int .i64 en, .slice ta tl tc, .int .i64 ps, .int .i64 pi, .int .i64 pm, .slice da dl dc] 30)).heap.size = w.heap.size + 1 := by simp
  obtain ⟨w1, hw1⟩ : ∃ y, w.alloc (.cells #[.int .i64 aK, .int .i64 aF, .int .i64 aO, .int .i64 aT, .int .i64 aS, .int .i64 aL, .int .i64 aC, .bool aY, .slice la ll lc, .int .i64 ek, .int .i64 ef, .int .i64 en, .slice ta tl tc, .int .i64 ps, .int .i64 pi, .int .i64 pm, .slice da dl dc] 30) = y := ⟨_, rfl⟩
  rw [hw1] at hal HW1 hs1
  have HB1 := hide hal
  have HS1 := hide hs1
  have HC1 := hide (unhide HMB w1 hal)
  clear hal hs1 hM oM hfit hk hf ht HMB
  cases hmm : mayMsg m with
  | false =>
    have e1 : marE m = 40 := by simp [marE, hmm]
    have e2 : marB m = [] := by simp [marB, e1]
    rw [e1, e2]
    rw [hmm] at HC1
    clear HME e1 e2
    go_enter Tryz.func11, Tryz.ntmps11
    go_wp2_with (first | rw [hw1] | refine wpList_load_wanted (by rfl) 30 _ rfl w.heap.size rfl 30 _ (0, 0) _ (unhide HW1) Tryz.underlying30 rfl (by kernel_rfl) ?_)
    refine (unhide HC1).mono ?_
    rintro e w2 ⟨rfl, hb2⟩
    have HB2 : Hid (Below w.heap.size w w2) := (unhide HB1).trans (hb2.mono (unhide HB1).size)
    clear hb2 HC1
    go_wp2_with fail
    go_ret2
    exact ⟨_, rfl, World.ownsRow_nil _ _ _ _, unhide HB2⟩
  | true =>
  rw [hmm] at HC1
  have hme := unhide HME hmm
  have HME2 := hide hme
  have hle := msgB_le hmm
  clear HME hme
  go_enter Tryz.func11, Tryz.ntmps11
  go_wp2_with (first | rw [hw1] | refine wpList_load_wanted (by rfl) 30 _ rfl w.heap.size rfl 30 _ (0, 0) _ (unhide HW1) Tryz.underlying30 rfl (by kernel_rfl) ?_)
  refine (unhide HC1).mono ?_
  rintro e w2 ⟨rfl, hb2⟩
  have hx2 : w2.heap[w.heap.size]? = some (.cells #[.int .i64 aK, .int .i64 aF, .int .i64 aO, .int .i64 aT, .int .i64 aS, .int .i64 aL, .int .i64 aC, .bool aY, .slice la ll lc, .int .i64 ek, .int .i64 ef, .int .i64 en, .slice ta tl tc, .int .i64 ps, .int .i64 pi, .int .i64 pm, .slice da dl dc] 30) := (hb2.block _ (Array.getElem?_eq_some_iff.1 (unhide HW1)).1).trans (unhide HW1)
  have HX2 := hide hx2
  have HB2 : Hid (Below w.heap.size w w2) := (unhide HB1).trans (hb2.mono (unhide HB1).size)
  have HS2 : Hid (w.heap.size < w2.heap.size) := (Array.getElem?_eq_some_iff.1 hx2).1
  clear hb2 HC1 hx2
  go_wp2_with fail
  refine (newMessageWriter_any w2).mono ?_
  rintro e w3 ⟨rfl, hw3, hb3⟩
  have hal4 : Below w3.heap.size w3 (w3.alloc (.cells #[.pointer (some ⟨w2.heap.size + 1, 0, none⟩), .pointer (some ⟨w2.heap.size + 1, 0, none⟩), .pointer (some ⟨w2.heap.size + 1, 0, none⟩)] 76)) := (Below.refl _ _).alloc (Nat.le_refl _) _
  have hx4 : (w3.alloc (.cells #[.pointer (some ⟨w2.heap.size + 1, 0, none⟩), .pointer (some ⟨w2.heap.size + 1, 0, none⟩), .pointer (some ⟨w2.heap.size + 1, 0, none⟩)] 76)).heap[w.heap.size]? = some (.cells #[.int .i64 aK, .int .i64 aF, .int .i64 aO, .int .i64 aT, .int .i64 aS, .int .i64 aL, .int .i64 aC, .bool aY, .slice la ll lc, .int .i64 ek, .int .i64 ef, .int .i64 en, .slice ta tl tc, .int .i64 ps, .int .i64 pi, .int .i64 pm, .slice da dl dc] 30) := (hal4.block _ (Nat.lt_of_lt_of_le (unhide HS2) hb3.size)).trans ((hb3.block _ (unhide HS2)).trans (unhide HX2))
  have h70 : (w3.alloc (.cells #[.pointer (some ⟨w2.heap.size + 1, 0, none⟩), .pointer (some ⟨w2.heap.size + 1, 0, none⟩), .pointer (some ⟨w2.heap.size + 1, 0, none⟩)] 76)).heap[w3.heap.size]? = some (.cells #[.pointer (some ⟨w2.heap.size + 1, 0, none⟩), .pointer (some ⟨w2.heap.size + 1, 0, none⟩), .pointer (some ⟨w2.heap.size + 1, 0, none⟩)] 76) := heap_alloc_new w3 _
  have hB4 : Below w.heap.size w (w3.alloc (.cells #[.pointer (some ⟨w2.heap.size + 1, 0, none⟩), .pointer (some ⟨w2.heap.size + 1, 0, none⟩), .pointer (some ⟨w2.heap.size + 1, 0, none⟩)] 76)) := ((unhide HB2).trans (hb3.mono (unhide HB2).size)).trans (hal4.mono (Nat.le_trans (unhide HB2).size hb3.size))
  have hne : w3.heap.size ≠ w2.heap.size + 1 := by have a1 := hw3.lt; have a2 := hw3.le; omega
  have HM4 := hide (unhide HME2 _ _ _ (hw3.below hal4) hB4 (by have := unhide HS2; omega))
  obtain ⟨w4, hw4⟩ : ∃ y, w3.alloc (.cells #[.pointer (some ⟨w2.heap.size + 1, 0, none⟩), .pointer (some ⟨w2.heap.size + 1, 0, none⟩), .pointer (some ⟨w2.heap.size + 1, 0, none⟩)] 76) = y := ⟨_, rfl⟩
  rw [hw4] at hal4 hx4 h70 hB4 HM4
  have HX4 := hide hx4
  have HB4 := hide hB4
  have HNE := hide hne
  have H70 := hide h70
  have j0 : w4.cell? ⟨w3.heap.size, 0, none⟩ = some (.pointer (some ⟨w2.heap.size + 1, 0, none⟩)) := cell_of_heap h70
  have j1 : w4.cell? ⟨w3.heap.size, 1, none⟩ = some (.pointer (some ⟨w2.heap.size + 1, 0, none⟩)) := cell_of_heap h70
  have j2 : w4.cell? ⟨w3.heap.size, 2, none⟩ = some (.pointer (some ⟨w2.heap.size + 1, 0, none⟩)) := cell_of_heap h70
  clear hw3 hb3 hal4 hx4 hB4 hne h70
  go_wp2_with (first | rw [hw4] | refine wpList_load_wanted (by rfl) 30 _ rfl w.heap.size rfl 30 _ (0, 0) _ (unhide HX4) Tryz.underlying30 rfl (by kernel_rfl) ?_)
  refine (unhide HM4).mono ?_
  rintro e y5 ⟨rfl, hw5, hr5⟩
  have h75 := hr5.box (unhide H70) (by decide) (unhide HNE)
  have j5 : y5.cell? ⟨w3.heap.size, 0, none⟩ = some (.pointer (some ⟨w2.heap.size + 1, 0, none⟩)) := cell_of_heap h75
  obtain ⟨v5, hv5, ho5⟩ := hw5.own
  have HO5 := hide ho5
  have HB5 : Hid (Below w.heap.size w y5) := (unhide HB4).trans (hr5.below (by have := unhide HS2; omega) (by have := unhide HS2; omega) (unhide HB4).size)
  obtain ⟨av, cv, rfl⟩ := own_shape ho5
  clear hw5 hr5 h75 ho5 HM4 j0 j1 j2
  by_cases hl : 1048576 < (msgB m).length
  · have e1 : marE m = 3 := by simp [marE, hmm, hl]
    have e2 : marB m = [] := by simp [marB, e1]
    have HE1 := hide e1
    have HE2 := hide e2
    have HSL := hide (seal_long av (msgB m).length cv y5 hl hle)
    clear e1 e2
    go_wp2_with fail
    refine (unhide HSL).mono ?_
    rintro e y6 ⟨rfl, rfl⟩
    go_wp2_with fail
    go_ret2
    rw [unhide HE1, unhide HE2]
    exact ⟨_, rfl, World.ownsRow_nil _ _ _ _, unhide HB5⟩
  · have e1 : marE m = 0 := by simp [marE, hmm, hl]
    have e2 : marB m = sealB (msgB m) := by simp [marB, e1]
    have HE1 := hide e1
    have HE2 := hide e2
    have HSL := hide (seal_ok _ (msgB m) y5 (sees_of_own (unhide HO5)).2 (unhide HBY) (by omega))
    clear e1 e2
    go_wp2_with fail
    refine (unhide HSL).mono ?_
    rintro e y6 ⟨x, rfl, ho6, hb6⟩
    have HF : Hid (y6.ownsRow w.heap.size 5 1 x (sealB (msgB m)).length (ints .u8 (sealB (msgB m))) ∧ Below w.heap.size w y6) := ⟨own_mono ho6 (unhide HB5).size, (unhide HB5).trans (hb6.mono (unhide HB5).size)⟩
    clear ho6 hb6
    go_wp2_with fail
    go_ret2
    rw [unhide HE1, unhide HE2]
    exact ⟨_, rfl, unhide HF⟩
end Go.Proofs.YtggllgimlfchhabGreat
