/- Several texts as one. -/
import Derived.Test.YtggllgimlfchhabGreatKF
import Derived.Test.YtggllgimlfchhabGreatKR
import Derived.Test.YtggllgimlfchhabGreatKE
import Derived.Test.YtggllgimlfchhabGreatKA
import Derived.Test.YtggllgimlfchhabGreatKX
import Derived.Test.YtggllgimlfchhabGreatKK
import Derived.Test.YtggllgimlfchhabGreatKQ

/- Record: Marshal. -/
namespace Go.Proofs.YtggllgimlfchhabGreat
open Go.RowKit
set_option maxRecDepth 100000

theorem putL_byt (l : List Int) : Byt (putL l) := by
  induction l with
  | nil => intro b hb; cases hb
  | cons x r ih => exact Byt.append (numB_byte x) ih
theorem txnB_byt {t : TxnD} (hf : FitT t) : Byt (txnB t) := by
  unfold txnB
  exact (((((putL_byt _).append ((putL_byt _).append hf.code)).append (putL_byt _)).append (putL_byt _)).append (putL_byt _)).append (putL_byt _)

theorem byt_flat {ls : List (List Int)} (h : ∀ l ∈ ls, Byt l) : Byt ls.flatten := fun b hb => by
  obtain ⟨l, hl, hb⟩ := List.mem_flatten.1 hb
  exact h l hl b hb
theorem entB_byt {e : EntD} (hf : FitE e) : Byt (entB e) := by
  unfold entB
  refine (putL_byt _).append ?_
  split
  · refine (putL_byt _).append ((putL_byt _).append (byt_flat fun l hl => ?_))
    obtain ⟨t, ht, rfl⟩ := List.mem_map.1 hl
    exact txnB_byt (hf.txns t ht)
  · exact byt_nil
theorem msgB_byt {m : MsgD} (hf : FitM m) (ho : OkM m) : Byt (msgB m) := by
  unfold msgB
  refine (putL_byt _).append (byt_flat fun l hl => ?_)
  obtain ⟨f, _, rfl⟩ := List.mem_map.1 hl
  unfold fB
  split
  · exact putL_byt _
  split
  · exact putL_byt _
  split
  · exact putL_byt _
  split
  · exact putL_byt _
  split
  · exact putL_byt _
  split
  · refine (putL_byt _).append (byt_flat fun l hl => ?_)
    obtain ⟨t, ht, rfl⟩ := List.mem_map.1 hl
    exact (putL_byt _).append (entB_byt (hf.list t ht).ent)
  split
  · exact entB_byt hf.ent
  · exact (putL_byt _).append ((putL_byt _).append ho.part)
theorem msgB_le {m : MsgD} (hm : mayMsg m = true) : (msgB m).length ≤ 140737488355328 := by
  have hall := mayMsg_fields hm
  have h5 := fieldsL_len m.kind
  have hb : ∀ f ∈ fieldsL m.kind, (fB f m).length ≤ 200000000 := fun f hf => by
    have p := fun q : Int => putL_le [q]
    simp only [List.length_cons, List.length_nil] at p
    have hm1 := hall f hf
    have hr := fieldsL_le m.kind f hf
    by_cases f0 : f = 0
    case pos =>
      subst f0
      have e : fB 0 m = putL [m.term] := by simp [fB]
      rw [e]
      have := p (m.term)
      omega
    by_cases f1 : f = 1
    case pos =>
      subst f1
      have e : fB 1 m = putL [m.slot] := by simp [fB]
      rw [e]
      have := p (m.slot)
      omega
    by_cases f2 : f = 2
    case pos =>
      subst f2
      have e : fB 2 m = putL [m.last] := by simp [fB]
      rw [e]
      have := p (m.last)
      omega
    by_cases f3 : f = 3
    case pos =>
      subst f3
      have e : fB 3 m = putL [m.commit] := by simp [fB]
      rw [e]
      have := p (m.commit)
      omega
    by_cases f4 : f = 4
    case pos =>
      subst f4
      have e : fB 4 m = putL [if m.yes then 1 else 0] := by simp [fB]
      rw [e]
      have := p (if m.yes then 1 else 0)
      omega
    by_cases f5 : f = 5
    case pos =>
      subst f5
      have e : fB 5 m = putL [(m.list.length : Int)] ++ tmsB m.list := by simp [fB]
      rw [e, List.length_append]
      have hm2 : (decide (m.list.length ≤ 4096) && m.list.all mayTm) = true := by simpa [fMay] using hm1
      simp only [Bool.and_eq_true, decide_eq_true_eq, List.all_eq_true] at hm2
      have h1 := p (m.list.length : Int)
      have h2 := tmsB_le (l := m.list) (fun t ht => by have := hm2.2 t ht; simp only [mayTm, Bool.and_eq_true] at this; exact this.2)
      omega
    by_cases f6 : f = 6
    case pos =>
      subst f6
      have e : fB 6 m = entB m.ent := by simp [fB]
      rw [e]
      have hm2 : mayE m.ent = true := by simpa [fMay] using hm1
      have := entB_le hm2
      omega
    obtain rfl : f = 7 := by omega
    have e : fB 7 m = ptB m.part := by simp [fB]
    rw [e]
    have hm2 : mayP m.part = true := by simpa [fMay] using hm1
    simp only [mayP, Bool.and_eq_true, decide_eq_true_eq] at hm2
    have h1 := putL_le [m.part.slot, m.part.idx, m.part.many]
    have h2 := p (m.part.data.length : Int)
    unfold ptB
    simp only [List.length_append, List.length_cons, List.length_nil] at h1 ⊢
    omega
  have hs : ∀ L : List Int, (∀ f ∈ L, (fB f m).length ≤ 200000000) → (flsB L m).length ≤ 200000000 * L.length := fun L => by
    induction L with
    | nil => intro _; simp [flsB]
    | cons f r ih =>
      intro h
      have h1 := h f (List.mem_cons_self ..)
      have h2 := ih (fun x hx => h x (List.mem_cons_of_mem _ hx))
      have e : flsB (f :: r) m = fB f m ++ flsB r m := by simp [flsB]
      rw [e, List.length_append, List.length_cons]
      omega
  have h1 := hs _ hb
  have h2 := putL_le [m.kind, m.frm, m.to]
  unfold msgB
  simp only [List.length_append, List.length_cons, List.length_nil] at h2 ⊢
  omega
def marE (m : MsgD) : Int := if mayMsg m then (if 1048576 < (msgB m).length then 3 else 0) else 40
def marB (m : MsgD) : List Int := if marE m = 0 then sealB (msgB m) else []

set_option maxHeartbeats 1600000 in
theorem marshal_any (cs : Array Value) (m : MsgD) (w : World) (hM : SeesM w cs m) (oM : OkM m) (hfit : FitM m)
    (hk : -9223372036854775808 ≤ m.kind ∧ m.kind ≤ 9223372036854775807) (hf : -9223372036854775808 ≤ m.frm ∧ m.frm ≤ 9223372036854775807) (ht : -9223372036854775808 ≤ m.to ∧ m.to ≤ 9223372036854775807) :
    Calls Tryz.prog 11 #[.agg cs] w fun r w' => ∃ x, r = .returned (.tuple #[x, .int .i64 (marE m)]) ∧ w'.ownsRow w.heap.size 5 1 x (marB m).length (ints .u8 (marB m)) ∧ Below w.heap.size w w' := by
  have HMB : Hid (∀ x, Below w.heap.size w x → Calls Tryz.prog 32 #[.agg cs] x fun e y => e = .returned (.bool (mayMsg m)) ∧ Below x.heap.size x y) := fun x hx => messageMayBe_any cs m x (hM.below hx) oM
  have HME : Hid (mayMsg m = true → ∀ (x : World) (B lo : Nat), Wr x B lo [] → Below w.heap.size w x → w.heap.size ≤ B → Calls Tryz.prog 34 #[.agg #[.pointer (some ⟨B, 0, none⟩), .pointer (some ⟨B, 0, none⟩), .pointer (some ⟨B, 0, none⟩)], .agg cs] x fun e w' => e = .returned (.tuple #[]) ∧ Wr w' B lo (msgB m) ∧ Wrote B lo x w') := fun hm x B lo hx hb hB => message_any hx cs m hM hb hB hfit hk hf ht hm
  have HBY := hide (msgB_byt hfit oM)
  obtain ⟨aK, aF, aO, aT, aS, aL, aC, aY, la, ll, lc, ek, ef, en, ta, tl, tc, ps, pi, pm, da, dl, dc, rfl, _, _, _⟩ := hM.shape
  have hal : Below w.heap.size w (w.alloc (.cells #[.int .i64 aK, .int .i64 aF, .int .i64 aO, .int .i64 aT, .int .i64 aS, .int .i64 aL, .int .i64 aC, .bool aY, .slice la ll lc, .int .i64 ek, .int .i64 ef, .int .i64 en, .slice ta tl tc, .int .i64 ps, .int .i64 pi, .int .i64 pm, .slice da dl dc] 30)) := (Below.refl _ _).alloc (Nat.le_refl _) _
  have HW1 : Hid ((w.alloc (.cells #[.int .i64 aK, .int .i64 aF, .int .i64 aO, .int .i64 aT, .int .i64 aS, .int .i64 aL, .int .i64 aC, .bool aY, .slice la ll lc, .int .i64 ek, .int .i64 ef, .int .i64 en, .slice ta tl tc, .int .i64 ps, .int .i64 pi, .int .i64 pm, .slice da dl dc] 30)).heap[w.heap.size]? = some (.cells #[.int .i64 aK, .int .i64 aF, .int .i64 aO, .int .i64 aT, .int .i64 aS, .int .i64 aL, .int .i64 aC, .bool aY, .slice la ll lc, .int .i64 ek, .int .i64 ef, .int .i64 en, .slice ta tl tc, .int .i64 ps, .int .i64 pi, .int .i64 pm, .slice da dl dc] 30)) := heap_alloc_new w _
  have hs1 : (w.alloc (.cells #[.int .i64 aK, .int .i64 aF, .int .i64 aO, .int .i64 aT, .int .i64 aS, .int .i64 aL, .int .i64 aC, .bool aY, .slice la ll lc, .int .i64 ek, .int .i64 ef, .int .i64 en, .slice ta tl tc, .int .i64 ps, .int .i64 pi, .int .i64 pm, .slice da dl dc] 30)).heap.size = w.heap.size + 1 := by simp
  obtain ⟨w1, hw1⟩ : ∃ y, w.alloc (.cells #[.int .i64 aK, .int .i64 aF, .int .i64 aO, .int .i64 aT, .int .i64 aS, .int .i64 aL, .int .i64 aC, .bool aY, .slice la ll lc, .int .i64 ek, .int .i64 ef, .int .i64 en, .slice ta tl tc, .int .i64 ps, .int .i64 pi, .int .i64 pm, .slice da dl dc] 30) = y := ⟨_, rfl⟩
  rw [hw1] at hal HW1 hs1
  have HB1 := hide hal
  have HS1 := hide hs1
  have HC1 := hide (unhide HMB w1 hal)
  clear hal hs1 hM oM hfit hk hf ht HMB
  cases hmm : mayMsg m with
  | false =>
    have e1 : marE m = 40 := by simp [marE, hmm]
    have e2 : marB m = [] := by simp [marB, e1]
    rw [e1, e2]
    rw [hmm] at HC1
    clear HME e1 e2
    go_enter Tryz.func11, Tryz.ntmps11
    go_wp2_with (first | rw [hw1] | refine wpList_load_wanted (by rfl) 30 _ rfl w.heap.size rfl 30 _ (0, 0) _ (unhide HW1) Tryz.underlying30 rfl (by kernel_rfl) ?_)
    refine (unhide HC1).mono ?_
    rintro e w2 ⟨rfl, hb2⟩
    have HB2 : Hid (Below w.heap.size w w2) := (unhide HB1).trans (hb2.mono (unhide HB1).size)
    clear hb2 HC1
    go_wp2_with fail
    go_ret2
    exact ⟨_, rfl, World.ownsRow_nil _ _ _ _, unhide HB2⟩
  | true =>
  rw [hmm] at HC1
  have hme := unhide HME hmm
  have HME2 := hide hme
  have hle := msgB_le hmm
  clear HME hme
  go_enter Tryz.func11, Tryz.ntmps11
  go_wp2_with (first | rw [hw1] | refine wpList_load_wanted (by rfl) 30 _ rfl w.heap.size rfl 30 _ (0, 0) _ (unhide HW1) Tryz.underlying30 rfl (by kernel_rfl) ?_)
  refine (unhide HC1).mono ?_
  rintro e w2 ⟨rfl, hb2⟩
  have hx2 : w2.heap[w.heap.size]? = some (.cells #[.int .i64 aK, .int .i64 aF, .int .i64 aO, .int .i64 aT, .int .i64 aS, .int .i64 aL, .int .i64 aC, .bool aY, .slice la ll lc, .int .i64 ek, .int .i64 ef, .int .i64 en, .slice ta tl tc, .int .i64 ps, .int .i64 pi, .int .i64 pm, .slice da dl dc] 30) := (hb2.block _ (Array.getElem?_eq_some_iff.1 (unhide HW1)).1).trans (unhide HW1)
  have HX2 := hide hx2
  have HB2 : Hid (Below w.heap.size w w2) := (unhide HB1).trans (hb2.mono (unhide HB1).size)
  have HS2 : Hid (w.heap.size < w2.heap.size) := (Array.getElem?_eq_some_iff.1 hx2).1
  clear hb2 HC1 hx2
  go_wp2_with fail
  refine (newMessageWriter_any w2).mono ?_
  rintro e w3 ⟨rfl, hw3, hb3⟩
  have hal4 : Below w3.heap.size w3 (w3.alloc (.cells #[.pointer (some ⟨w2.heap.size + 1, 0, none⟩), .pointer (some ⟨w2.heap.size + 1, 0, none⟩), .pointer (some ⟨w2.heap.size + 1, 0, none⟩)] 76)) := (Below.refl _ _).alloc (Nat.le_refl _) _
  have hx4 : (w3.alloc (.cells #[.pointer (some ⟨w2.heap.size + 1, 0, none⟩), .pointer (some ⟨w2.heap.size + 1, 0, none⟩), .pointer (some ⟨w2.heap.size + 1, 0, none⟩)] 76)).heap[w.heap.size]? = some (.cells #[.int .i64 aK, .int .i64 aF, .int .i64 aO, .int .i64 aT, .int .i64 aS, .int .i64 aL, .int .i64 aC, .bool aY, .slice la ll lc, .int .i64 ek, .int .i64 ef, .int .i64 en, .slice ta tl tc, .int .i64 ps, .int .i64 pi, .int .i64 pm, .slice da dl dc] 30) := (hal4.block _ (Nat.lt_of_lt_of_le (unhide HS2) hb3.size)).trans ((hb3.block _ (unhide HS2)).trans (unhide HX2))
  have h70 : (w3.alloc (.cells #[.pointer (some ⟨w2.heap.size + 1, 0, none⟩), .pointer (some ⟨w2.heap.size + 1, 0, none⟩), .pointer (some ⟨w2.heap.size + 1, 0, none⟩)] 76)).heap[w3.heap.size]? = some (.cells #[.pointer (some ⟨w2.heap.size + 1, 0, none⟩), .pointer (some ⟨w2.heap.size + 1, 0, none⟩), .pointer (some ⟨w2.heap.size + 1, 0, none⟩)] 76) := heap_alloc_new w3 _
  have hB4 : Below w.heap.size w (w3.alloc (.cells #[.pointer (some ⟨w2.heap.size + 1, 0, none⟩), .pointer (some ⟨w2.heap.size + 1, 0, none⟩), .pointer (some ⟨w2.heap.size + 1, 0, none⟩)] 76)) := ((unhide HB2).trans (hb3.mono (unhide HB2).size)).trans (hal4.mono (Nat.le_trans (unhide HB2).size hb3.size))
  have hne : w3.heap.size ≠ w2.heap.size + 1 := by have a1 := hw3.lt; have a2 := hw3.le; omega
  have HM4 := hide (unhide HME2 _ _ _ (hw3.below hal4) hB4 (by have := unhide HS2; omega))
  obtain ⟨w4, hw4⟩ : ∃ y, w3.alloc (.cells #[.pointer (some ⟨w2.heap.size + 1, 0, none⟩), .pointer (some ⟨w2.heap.size + 1, 0, none⟩), .pointer (some ⟨w2.heap.size + 1, 0, none⟩)] 76) = y := ⟨_, rfl⟩
  rw [hw4] at hal4 hx4 h70 hB4 HM4
  have HX4 := hide hx4
  have HB4 := hide hB4
  have HNE := hide hne
  have H70 := hide h70
  have j0 : w4.cell? ⟨w3.heap.size, 0, none⟩ = some (.pointer (some ⟨w2.heap.size + 1, 0, none⟩)) := cell_of_heap h70
  have j1 : w4.cell? ⟨w3.heap.size, 1, none⟩ = some (.pointer (some ⟨w2.heap.size + 1, 0, none⟩)) := cell_of_heap h70
  have j2 : w4.cell? ⟨w3.heap.size, 2, none⟩ = some (.pointer (some ⟨w2.heap.size + 1, 0, none⟩)) := cell_of_heap h70
  clear hw3 hb3 hal4 hx4 hB4 hne h70
  go_wp2_with (first | rw [hw4] | refine wpList_load_wanted (by rfl) 30 _ rfl w.heap.size rfl 30 _ (0, 0) _ (unhide HX4) Tryz.underlying30 rfl (by kernel_rfl) ?_)
  refine (unhide HM4).mono ?_
  rintro e y5 ⟨rfl, hw5, hr5⟩
  have h75 := hr5.box (unhide H70) (by decide) (unhide HNE)
  have j5 : y5.cell? ⟨w3.heap.size, 0, none⟩ = some (.pointer (some ⟨w2.heap.size + 1, 0, none⟩)) := cell_of_heap h75
  obtain ⟨v5, hv5, ho5⟩ := hw5.own
  have HO5 := hide ho5
  have HB5 : Hid (Below w.heap.size w y5) := (unhide HB4).trans (hr5.below (by have := unhide HS2; omega) (by have := unhide HS2; omega) (unhide HB4).size)
  obtain ⟨av, cv, rfl⟩ := own_shape ho5
  clear hw5 hr5 h75 ho5 HM4 j0 j1 j2
  by_cases hl : 1048576 < (msgB m).length
  · have e1 : marE m = 3 := by simp [marE, hmm, hl]
    have e2 : marB m = [] := by simp [marB, e1]
    have HE1 := hide e1
    have HE2 := hide e2
    have HSL := hide (seal_long av (msgB m).length cv y5 hl hle)
    clear e1 e2
    go_wp2_with fail
    refine (unhide HSL).mono ?_
    rintro e y6 ⟨rfl, rfl⟩
    go_wp2_with fail
    go_ret2
    rw [unhide HE1, unhide HE2]
    exact ⟨_, rfl, World.ownsRow_nil _ _ _ _, unhide HB5⟩
  · have e1 : marE m = 0 := by simp [marE, hmm, hl]
    have e2 : marB m = sealB (msgB m) := by simp [marB, e1]
    have HE1 := hide e1
    have HE2 := hide e2
    have HSL := hide (seal_ok _ (msgB m) y5 (sees_of_own (unhide HO5)).2 (unhide HBY) (by omega))
    clear e1 e2
    go_wp2_with fail
    refine (unhide HSL).mono ?_
    rintro e y6 ⟨x, rfl, ho6, hb6⟩
    have HF : Hid (y6.ownsRow w.heap.size 5 1 x (sealB (msgB m)).length (ints .u8 (sealB (msgB m))) ∧ Below w.heap.size w y6) := ⟨own_mono ho6 (unhide HB5).size, (unhide HB5).trans (hb6.mono (unhide HB5).size)⟩
    clear ho6 hb6
    go_wp2_with fail
    go_ret2
    rw [unhide HE1, unhide HE2]
    exact ⟨_, rfl, unhide HF⟩
end Go.Proofs.YtggllgimlfchhabGreat

/- Record: messages there and back, in pure terms. -/
namespace Go.Proofs.YtggllgimlfchhabGreat
open Go.RowKit
set_option maxRecDepth 100000

theorem entry_put {e : EntD} {r : List Int} {un : Bool} (hf : FitE e) (hm : mayE e = true) : (RS.mk (entB e ++ r) 0 un).entry = (e, ⟨r, 0, un⟩) := by
  rcases mayE_kind hm with hk | hk
  · have he : e = dE := by
      unfold mayE at hm
      rw [if_pos hk] at hm
      exact of_decide_eq_true hm
    subst he
    have e1 : entB dE ++ r = numB 0 ++ r := by simp [entB, dE, putL]
    rw [e1]
    unfold RS.entry RS.kind
    rw [num_put (by decide)]
    simp only
    rw [decide_eq_true (by decide : (0 : Int) ≤ 0 ∧ (0 : Int) ≤ 1), must_true]
    rfl
  · obtain ⟨m1, m2⟩ := mayE_one hm hk
    have e1 : entB e ++ r = numB 1 ++ (numB e.frm ++ (numB e.num ++ (numB (e.txns.length : Int) ++ ((e.txns.map txnB).flatten ++ r)))) := by
      unfold entB
      rw [if_pos hk, hk]
      simp only [putL_cons, putL_nil, txns_flat, List.append_assoc, List.append_nil]
    rw [e1]
    have k1 := fun r => num_put (x := 1) (r := r) (un := un) (by decide)
    have k2 := fun r => num_put (x := e.frm) (r := r) (un := un) hf.frm
    have k3 := fun r => num_put (x := e.num) (r := r) (un := un) hf.num
    have k4 := list_put (take := RS.txn) (enc := txnB) (un := un) (l := e.txns) (fun a ha r => txn_put (hf.txns a ha) (m2 a ha)) r (by omega)
    unfold RS.entry RS.kind
    rw [k1]
    simp only
    rw [decide_eq_true (by decide : (0 : Int) ≤ 1 ∧ (1 : Int) ≤ 1), must_true]
    simp only [if_true]
    rw [k2]
    simp only
    rw [k3]
    simp only
    rw [k4]
    obtain ⟨a, b, c, d⟩ := e
    simp only at hk
    rw [hk]
theorem termed_put {t : TmD} {r : List Int} {un : Bool} (hf : FitTm t) (hm : mayTm t = true) : (RS.mk (tmB t ++ r) 0 un).termed = (t, ⟨r, 0, un⟩) := by
  simp only [mayTm, Bool.and_eq_true] at hm
  have e1 : tmB t ++ r = numB t.term ++ (entB t.ent ++ r) := by simp [tmB, putL]
  unfold RS.termed
  rw [e1, num_put hf.term]
  simp only
  rw [entry_put hf.ent hm.2]
theorem part_put {p : PtD} {r : List Int} {un : Bool} (hf : FitP p) (hm : mayP p = true) : (RS.mk (ptB p ++ r) 0 un).part = (p, ⟨r, 0, un⟩) := by
  unfold mayP at hm
  simp only [Bool.and_eq_true, decide_eq_true_eq] at hm
  have e1 : ptB p ++ r = numB p.slot ++ (numB p.idx ++ (numB p.many ++ (putL [(p.data.length : Int)] ++ p.data ++ r))) := by
    simp only [ptB, putL_cons, putL_nil, List.append_assoc, List.nil_append]
  unfold RS.part
  rw [e1, num_put hf.slot]
  simp only
  rw [num_put hf.idx]
  simp only
  rw [num_put hf.many]
  simp only
  rw [blob_put (by omega)]
theorem flag_put {y : Bool} {r : List Int} {un : Bool} : (RS.mk (putL [if y then (1 : Int) else 0] ++ r) 0 un).flag = (y, ⟨r, 0, un⟩) := by
  rw [putL_one]
  unfold RS.flag
  cases y with
  | false =>
    simp only [Bool.false_eq_true, if_false]
    rw [num_put (by decide)]
    simp [RS.must]
  | true =>
    simp only [if_true]
    rw [num_put (by decide)]
    simp [RS.must]
def setf (f : Int) (a m : MsgD) : MsgD :=
  if f = 0 then { a with term := m.term } else if f = 1 then { a with slot := m.slot } else if f = 2 then { a with last := m.last } else if f = 3 then { a with commit := m.commit } else if f = 4 then { a with yes := m.yes } else if f = 5 then { a with list := m.list } else if f = 6 then { a with ent := m.ent } else { a with part := m.part }
theorem field_put {f : Int} {a m : MsgD} {r : List Int} {un : Bool} (hf : FitM m) (h0 : 0 ≤ f ∧ f ≤ 7) (hm : fMay f m = true) : RS.field f a ⟨fB f m ++ r, 0, un⟩ = (setf f a m, ⟨r, 0, un⟩) := by
  unfold RS.field setf fB
  by_cases c0 : f = 0
  · simp only [c0, if_true]; rw [putL_one, num_put hf.term]
  by_cases c1 : f = 1
  · simp only [c1, if_true]; rw [if_neg (by decide), if_neg (by decide), if_neg (by decide), putL_one, num_put hf.slot]
  by_cases c2 : f = 2
  · simp only [c2, if_true]; rw [if_neg (by decide), if_neg (by decide), if_neg (by decide), if_neg (by decide), if_neg (by decide), if_neg (by decide), putL_one, num_put hf.last]
  by_cases c3 : f = 3
  · subst c3; simp; rw [putL_one, num_put hf.commit]; simp
  by_cases c4 : f = 4
  · subst c4; simp; have := flag_put (y := m.yes) (r := r) (un := un); rw [this]; simp
  by_cases c5 : f = 5
  · subst c5
    simp [fMay] at hm
    simp
    have e : putL [(m.list.length : Int)] ++ (tmsB m.list ++ r) = numB (m.list.length : Int) ++ ((m.list.map tmB).flatten ++ r) := by rw [putL_one]; rfl
    rw [e, list_put (take := RS.termed) (enc := tmB) (fun t ht r => termed_put (hf.list t ht) (hm.2 t ht)) r hm.1]
    simp
  by_cases c6 : f = 6
  · subst c6
    simp [fMay] at hm
    simp
    rw [entry_put hf.ent hm]
    simp
  have c7 : f = 7 := by omega
  subst c7
  simp [fMay] at hm
  simp
  rw [part_put hf.part hm]
  simp
theorem fields_put {m : MsgD} {un : Bool} (hf : FitM m) : ∀ (F : List Int) (a : MsgD) (r : List Int), (∀ f ∈ F, (0 ≤ f ∧ f ≤ 7) ∧ fMay f m = true) → RS.fields F a ⟨flsB F m ++ r, 0, un⟩ = (F.foldl (fun a f => setf f a m) a, ⟨r, 0, un⟩)
  | [], a, r, _ => rfl
  | f :: F, a, r, h => by
    have h1 := h f (by simp)
    have e : flsB (f :: F) m ++ r = fB f m ++ (flsB F m ++ r) := by simp [flsB]
    have hs : ∀ s, RS.fields (f :: F) a s = RS.fields F (RS.field f a s).1 (RS.field f a s).2 := fun _ => rfl
    rw [hs, e, field_put hf h1.1 h1.2]
    exact fields_put hf F _ r (fun g hg => h g (by simp [hg]))
theorem msg_fill {m : MsgD} (hm : mayMsg m = true) : (fieldsL m.kind).foldl (fun a f => setf f a m) ⟨m.kind, m.frm, m.to, 0, 0, 0, 0, false, [], ⟨0, 0, 0, []⟩, ⟨0, 0, 0, []⟩⟩ = m := by
  rw [← mays_same] at hm
  simp only [refMay, Bool.and_eq_true, decide_eq_true_eq] at hm
  obtain ⟨⟨⟨⟨⟨⟨⟨⟨hk, hp⟩, _⟩, _⟩, _⟩, _⟩, _⟩, _⟩, _⟩ := hm
  obtain ⟨k, f, t, a, b, c, d, y, l, e, p⟩ := m
  simp only at hk hp ⊢
  have h6 : k = 1 ∨ k = 2 ∨ k = 3 ∨ k = 4 ∨ k = 5 ∨ k = 6 := by omega
  rcases h6 with rfl | rfl | rfl | rfl | rfl | rfl <;> simp [plainM, dE, dP] at hp <;> simp [fieldsL, setf, hp]
theorem msg_put {m : MsgD} {r : List Int} {un : Bool} (hf : FitM m) (hm : mayMsg m = true) : (RS.mk (msgB m ++ r) 0 un).msg = (m, ⟨r, 0, un⟩) := by
  have hfl := mayMsg_fields hm
  have hfill := msg_fill hm
  have hm2 := hm
  rw [← mays_same] at hm2
  simp only [refMay, Bool.and_eq_true, decide_eq_true_eq, isRep] at hm2
  obtain ⟨⟨⟨⟨⟨⟨⟨⟨hk, _⟩, hfr⟩, hto⟩, _⟩, _⟩, _⟩, _⟩, _⟩ := hm2
  have e1 : msgB m ++ r = numB m.kind ++ (numB m.frm ++ (numB m.to ++ (flsB (fieldsL m.kind) m ++ r))) := by
    simp only [msgB, putL_cons, putL_nil, List.append_assoc, List.nil_append]
  unfold RS.msg RS.kind
  rw [e1, num_put (by omega)]
  simp only
  rw [decide_eq_true hk, must_true, num_put (by omega)]
  simp only
  rw [num_put (by omega)]
  simp only
  rw [fields_put hf _ _ _ (fun f h => ⟨fieldsL_le _ f h, hfl f h⟩), hfill]
theorem unm_mar {m : MsgD} (hf : FitM m) (he : marE m = 0) : unm (marB m) = (m, 0) := by
  have hm : mayMsg m = true := by
    cases c : mayMsg m with
    | true => rfl
    | false => simp [marE, c] at he
  have hl : (msgB m).length ≤ 1048576 := by
    simp [marE, hm] at he
    omega
  have hb : marB m = sealB (msgB m) := by simp [marB, he]
  have ht := tu_whole (msgB m) [] hl
  rw [List.append_nil] at ht
  unfold unm
  rw [hb, ht]
  simp only
  rw [if_neg (by simp), if_neg (by omega)]
  have h0 := msg_put (r := []) (un := false) hf hm
  rw [List.append_nil] at h0
  rw [h0]
  simp [finM, RS.fin, RS.fault, hm]
end Go.Proofs.YtggllgimlfchhabGreat

/- Record: what was read is written as it stood, in pure terms. -/
namespace Go.Proofs.YtggllgimlfchhabGreat
open Go.RowKit
set_option maxRecDepth 100000

theorem zfit : (-9223372036854775808 : Int) ≤ 0 ∧ (0 : Int) ≤ 9223372036854775807 := by decide
theorem num_er' {s : RS} (h : s.er ≠ 0) : s.num = (0, s) := by unfold RS.num; rw [if_neg h]
theorem num_e0 {s : RS} (h : s.num.2.er = 0) : s.er = 0 := Classical.byContradiction fun g => by rw [num_er' g] at h; exact g h
theorem blob_e0 {s : RS} (h : s.blob.2.er = 0) : s.er = 0 := Classical.byContradiction fun g => by
  unfold RS.blob at h
  rw [if_neg g] at h
  exact g h
theorem must_e0 {s : RS} {b : Bool} (h : (s.must b).er = 0) : s.er = 0 ∧ b = true := by
  cases b with
  | true => rw [must_true] at h; exact ⟨h, rfl⟩
  | false =>
    by_cases g : s.er = 0
    · rw [must_false s g] at h; cases h
    · rw [must_er s _ g] at h; exact absurd h g
theorem num_inv {s : RS} (hb : Byt s.zs) (h : s.num.2.er = 0) : s.zs = numB s.num.1 ++ s.num.2.zs := by
  have h0 := num_e0 h
  unfold RS.num at h ⊢
  rw [if_pos h0] at h ⊢
  simp only at h ⊢
  rw [(tn_put s.zs hb h).1, List.take_append_drop]
theorem num_fit {s : RS} (hb : Byt s.zs) : -9223372036854775808 ≤ s.num.1 ∧ s.num.1 ≤ 9223372036854775807 := by
  by_cases h0 : s.er = 0
  · unfold RS.num
    rw [if_pos h0]
    simp only
    by_cases h : (tn s.zs).2.2 = 0
    · exact (tn_put s.zs hb h).2
    · rw [(tn_no s.zs h).1]; exact zfit
  · rw [num_er' h0]; exact zfit
theorem blob_inv {s : RS} (hb : Byt s.zs) (h : s.blob.2.er = 0) : s.zs = putL [(s.blob.1.length : Int)] ++ s.blob.1 ++ s.blob.2.zs := by
  have h0 := blob_e0 h
  unfold RS.blob at h ⊢
  rw [if_pos h0] at h ⊢
  simp only at h ⊢
  rw [(tb_put s.zs hb h).1, List.take_append_drop]
theorem num_un' (s : RS) : s.num.2.un = s.un := by unfold RS.num; split <;> rfl
theorem blob_un' (s : RS) : s.blob.2.un = s.un := by unfold RS.blob; split <;> rfl
theorem must_un' (s : RS) (b : Bool) : (s.must b).un = s.un := by unfold RS.must; split <;> rfl
theorem key_inv {s : RS} (hb : Byt s.zs) (h : s.key.2.er = 0) (hu : s.key.2.un = false) : s.zs = (numB s.key.1.1 ++ numB s.key.1.2) ++ s.key.2.zs ∧ s.un = false := by
  unfold RS.key at h hu ⊢
  simp only at h hu ⊢
  rw [num_un'] at hu
  have hw : w32 s.num.1 = s.num.1 := Classical.byContradiction fun g => by rw [fit32_no g] at hu; cases hu
  rw [fit32_yes hw] at h hu ⊢
  simp only at h hu ⊢
  have h1 := num_e0 h
  have i1 := num_inv hb h1
  have i2 := num_inv (num_byt hb) h
  rw [hw, List.append_assoc, ← i2, ← i1]
  rw [num_un'] at hu
  exact ⟨rfl, hu⟩
theorem iter_inv {α : Type} {take : RS → α × RS} {enc : α → List Int} (inv : ∀ s, Byt s.zs → (take s).2.er = 0 → (take s).2.un = false → s.zs = enc (take s).1 ++ (take s).2.zs ∧ s.un = false) (byt : ∀ s, Byt s.zs → Byt (take s).2.zs) {s : RS} (hb : Byt s.zs) :
    ∀ k, (RS.iter take k s).2.er = 0 → (RS.iter take k s).2.un = false → Byt (RS.iter take k s).2.zs ∧ s.zs = ((RS.iter take k s).1.map enc).flatten ++ (RS.iter take k s).2.zs ∧ (RS.iter take k s).1.length = k ∧ s.un = false
  | 0 => fun _ hu => ⟨hb, by simp [RS.iter], rfl, hu⟩
  | k + 1 => by
    intro he hu
    by_cases he0 : (RS.iter take k s).2.er = 0
    · have hby : Byt (RS.iter take k s).2.zs := (iter_byt (take := take) (P := fun _ => True) (fun s hs => ⟨byt s hs, trivial⟩) hb k).1
      rw [iter_step he0] at he hu ⊢
      simp only at he hu ⊢
      obtain ⟨i1, i2⟩ := inv _ hby he hu
      obtain ⟨_, j1, j2, j3⟩ := iter_inv inv byt hb k he0 i2
      refine ⟨byt _ hby, ?_, by simp [j2], j3⟩
      rw [List.map_append, List.flatten_append, List.append_assoc]
      simp only [List.map_cons, List.map_nil, List.flatten_cons, List.flatten_nil, List.append_nil]
      rw [← i1]
      exact j1
    · rw [iter_stop he0 1] at he
      exact absurd he he0
theorem iter_e0 {α : Type} {take : RS → α × RS} {s : RS} {k : Nat} (h : (RS.iter take k s).2.er = 0) : s.er = 0 := iter_ok s k h 0 (Nat.zero_le _)
theorem list_e0 {α : Type} {take : RS → α × RS} {s : RS} (h : (s.list take).2.er = 0) : s.er = 0 := num_e0 (must_e0 (iter_e0 h)).1
theorem list_inv {α : Type} {take : RS → α × RS} {enc : α → List Int} (inv : ∀ s, Byt s.zs → (take s).2.er = 0 → (take s).2.un = false → s.zs = enc (take s).1 ++ (take s).2.zs ∧ s.un = false) (byt : ∀ s, Byt s.zs → Byt (take s).2.zs) {s : RS} (hb : Byt s.zs)
    (he : (s.list take).2.er = 0) (hu : (s.list take).2.un = false) : s.zs = numB ((s.list take).1.length : Int) ++ (((s.list take).1.map enc).flatten ++ (s.list take).2.zs) ∧ s.un = false ∧ Byt (s.list take).2.zs := by
  have hl : s.len.er = 0 := iter_e0 he
  have hm := must_e0 hl
  have hlen : s.len = s.num.2 := by unfold RS.len; rw [hm.2, must_true]
  have hn := of_decide_eq_true hm.2
  have hb1 : Byt s.len.zs := by rw [hlen]; exact num_byt hb
  obtain ⟨j0, j1, j2, j3⟩ := iter_inv inv byt hb1 s.num.1.toNat he hu
  have hz : s.len.zs = s.num.2.zs := by rw [hlen]
  have hy : s.len.un = s.un := by rw [hlen, num_un']
  rw [hy] at j3
  have i := num_inv hb hm.1
  have hx : ((s.list take).1.length : Int) = s.num.1 := by
    have : (s.list take).1.length = s.num.1.toNat := j2
    omega
  refine ⟨?_, j3, j0⟩
  rw [hx]
  have j1' : s.num.2.zs = ((s.list take).1.map enc).flatten ++ (s.list take).2.zs := by rw [← hz]; exact j1
  rw [← j1', ← i]
theorem num_inv' (s : RS) (hb : Byt s.zs) (he : s.num.2.er = 0) (hu : s.num.2.un = false) : s.zs = numB s.num.1 ++ s.num.2.zs ∧ s.un = false := ⟨num_inv hb he, by rw [num_un'] at hu; exact hu⟩
theorem txn_e0 {s : RS} (h : s.txn.2.er = 0) : s.er = 0 := by
  unfold RS.txn at h
  simp only at h
  exact num_e0 (num_e0 (blob_e0 (list_e0 (list_e0 (list_e0 h)))))
theorem txn_inv {s : RS} (hb : Byt s.zs) (he : s.txn.2.er = 0) (hu : s.txn.2.un = false) : s.zs = txnB s.txn.1 ++ s.txn.2.zs ∧ s.un = false := by
  have hby := hb
  unfold RS.txn at he hu ⊢
  simp only at he hu ⊢
  have e5 := list_e0 he
  have e4 := list_e0 e5
  have e3 := list_e0 e4
  have e2 := blob_e0 e3
  have e1 := num_e0 e2
  have b1 := num_byt hb
  have b2 := num_byt b1
  have b3 := (blob_byt b2).1
  have b4 := (list_byt (take := RS.num) (P := fun _ => True) (fun s hs => ⟨num_byt hs, trivial⟩) b3).1
  have b5 := (list_byt (take := RS.key) (P := fun _ => True) (fun s hs => ⟨key_byt hs, trivial⟩) b4).1
  obtain ⟨i6, u6, _⟩ := list_inv (take := RS.key) (enc := fun k : Int × Int => numB k.1 ++ numB k.2) (fun s hb he hu => key_inv hb he hu) (fun s hs => key_byt hs) b5 he hu
  obtain ⟨i5, u5, _⟩ := list_inv (take := RS.key) (enc := fun k : Int × Int => numB k.1 ++ numB k.2) (fun s hb he hu => key_inv hb he hu) (fun s hs => key_byt hs) b4 e5 u6
  obtain ⟨i4, u4, _⟩ := list_inv (take := RS.num) (enc := numB) num_inv' (fun s hs => num_byt hs) b3 e4 u5
  have i3 := blob_inv b2 e3
  have i2 := num_inv b1 e2
  have i1 := num_inv hb e1
  rw [blob_un', num_un', num_un'] at u4
  refine ⟨?_, u4⟩
  simp only [txnB, putL_cons, putL_nil, keys_flat, List.append_assoc, List.nil_append]
  rw [nums_flat ((s.num.2.num.2.blob.2.list RS.num).1), ← i6, ← i5, ← i4]
  rw [putL_one] at i3
  simp only [List.append_assoc] at i3
  rw [← i3, ← i2, ← i1]
theorem entry_inv {s : RS} (hb : Byt s.zs) (he : s.entry.2.er = 0) (hu : s.entry.2.un = false) : s.zs = entB s.entry.1 ++ s.entry.2.zs ∧ s.un = false ∧ s.er = 0 := by
  unfold RS.entry RS.kind at he hu ⊢
  simp only at he hu ⊢
  by_cases h1 : s.num.1 = 1
  · rw [h1] at he hu ⊢
    simp only [if_true] at he hu ⊢
    rw [decide_eq_true (by decide : (0 : Int) ≤ 1 ∧ (1 : Int) ≤ 1), must_true] at he hu ⊢
    have e3 := list_e0 he
    have e2 := num_e0 e3
    have e1 := num_e0 e2
    have b1 := num_byt hb
    have b2 := num_byt b1
    have b3 := num_byt b2
    obtain ⟨i4, u4, _⟩ := list_inv (take := RS.txn) (enc := txnB) (fun s hb he hu => txn_inv hb he hu) (fun s hs => (txn_byt hs).1) b3 he hu
    have i3 := num_inv b2 e3
    have i2 := num_inv b1 e2
    have i1 := num_inv hb e1
    rw [num_un', num_un', num_un'] at u4
    refine ⟨?_, u4, num_e0 e1⟩
    simp only [entB, if_true, putL_cons, putL_nil, txns_flat, List.append_assoc, List.nil_append]
    rw [← i4, ← i3, ← i2]
    rw [h1] at i1
    exact i1
  · rw [if_neg h1] at he hu ⊢
    have hm := must_e0 he
    have hn := of_decide_eq_true hm.2
    have h0 : s.num.1 = 0 := by omega
    rw [must_un', num_un'] at hu
    refine ⟨?_, hu, num_e0 hm.1⟩
    rw [hm.2, must_true, h0]
    have i1 := num_inv hb hm.1
    rw [h0] at i1
    simp only [entB, putL_cons, putL_nil, List.append_nil]
    rw [if_neg (by decide), List.append_nil]
    exact i1
theorem termed_inv {s : RS} (hb : Byt s.zs) (he : s.termed.2.er = 0) (hu : s.termed.2.un = false) : s.zs = tmB s.termed.1 ++ s.termed.2.zs ∧ s.un = false := by
  unfold RS.termed at he hu ⊢
  simp only at he hu ⊢
  obtain ⟨i2, u2, e2⟩ := entry_inv (num_byt hb) he hu
  have i1 := num_inv hb e2
  rw [num_un'] at u2
  refine ⟨?_, u2⟩
  simp only [tmB, putL_cons, putL_nil, List.append_assoc, List.nil_append]
  rw [← i2, ← i1]
theorem part_inv {s : RS} (hb : Byt s.zs) (he : s.part.2.er = 0) : s.zs = ptB s.part.1 ++ s.part.2.zs ∧ s.part.2.un = s.un ∧ s.er = 0 := by
  unfold RS.part at he ⊢
  simp only at he ⊢
  have e3 := blob_e0 he
  have e2 := num_e0 e3
  have e1 := num_e0 e2
  have i4 := blob_inv (num_byt (num_byt (num_byt hb))) he
  have i3 := num_inv (num_byt (num_byt hb)) e3
  have i2 := num_inv (num_byt hb) e2
  have i1 := num_inv hb e1
  refine ⟨?_, by rw [blob_un', num_un', num_un', num_un'], num_e0 e1⟩
  simp only [ptB, putL_cons, putL_nil, List.append_assoc, List.nil_append]
  simp only [putL_cons, putL_nil, List.append_assoc, List.nil_append] at i4
  rw [← i4, ← i3, ← i2, ← i1]
theorem flag_inv {s : RS} (hb : Byt s.zs) (he : s.flag.2.er = 0) : s.zs = putL [if s.flag.1 then (1 : Int) else 0] ++ s.flag.2.zs ∧ s.flag.2.un = s.un ∧ s.num.2.er = 0 := by
  unfold RS.flag at he ⊢
  simp only at he ⊢
  have hm := must_e0 he
  have hn := of_decide_eq_true hm.2
  have i1 := num_inv hb hm.1
  refine ⟨?_, by rw [must_un', num_un'], hm.1⟩
  rw [hm.2, must_true, putL_one]
  rcases hn with h | h <;> rw [h] at i1 ⊢ <;> simpa using i1
theorem entry_e0 {s : RS} (h : s.entry.2.er = 0) : s.er = 0 := by
  unfold RS.entry RS.kind at h
  simp only at h
  split at h
  · exact num_e0 (must_e0 (num_e0 (num_e0 (list_e0 h)))).1
  · exact num_e0 (must_e0 h).1
theorem field_e0 {f : Int} {m : MsgD} {s : RS} (h : (RS.field f m s).2.er = 0) : s.er = 0 := by
  unfold RS.field at h
  split at h
  · exact num_e0 h
  split at h
  · exact num_e0 h
  split at h
  · exact num_e0 h
  split at h
  · exact num_e0 h
  split at h
  · exact num_e0 (must_e0 h).1
  split at h
  · exact list_e0 h
  split at h
  · exact entry_e0 h
  · exact num_e0 (num_e0 (num_e0 (blob_e0 h)))
theorem fields_e0 : ∀ {F : List Int} {m : MsgD} {s : RS}, (RS.fields F m s).2.er = 0 → s.er = 0
  | [], _, _, h => h
  | f :: F, m, s, h => field_e0 (fields_e0 (F := F) (m := (RS.field f m s).1) (s := (RS.field f m s).2) h)
theorem fields_inv {k f t : Int} {s : RS} (hk : 1 ≤ k ∧ k ≤ 6) (hb : Byt s.zs) (m : MsgD) (s' : RS) (hm : RS.fields (fieldsL k) ⟨k, f, t, 0, 0, 0, 0, false, [], ⟨0, 0, 0, []⟩, ⟨0, 0, 0, []⟩⟩ s = (m, s')) (he : s'.er = 0) (hu : s'.un = false) :
    s.zs = flsB (fieldsL k) m ++ s'.zs ∧ m.kind = k ∧ m.frm = f ∧ m.to = t := by
  have h6 : k = 1 ∨ k = 2 ∨ k = 3 ∨ k = 4 ∨ k = 5 ∨ k = 6 := by omega
  rcases h6 with rfl | rfl | rfl | rfl | rfl | rfl <;> simp [fieldsL, RS.fields, RS.field] at hm <;> obtain ⟨rfl, rfl⟩ := hm
  · have e2 := num_e0 he
    have e1 := num_e0 e2
    have i3 := num_inv (num_byt (num_byt hb)) he
    have i2 := num_inv (num_byt hb) e2
    have i1 := num_inv hb e1
    refine ⟨?_, rfl, rfl, rfl⟩
    simp only [flsB, fieldsL, fB, putL_cons, putL_nil]
    simp
    rw [← i3, ← i2, ← i1]
  · obtain ⟨i2, _, e2⟩ := flag_inv (num_byt hb) he
    have i1 := num_inv hb (num_e0 e2)
    refine ⟨?_, rfl, rfl, rfl⟩
    simp [flsB, fieldsL, fB]
    rw [putL_one, ← i2, ← i1]
  · obtain ⟨i5, u5, _⟩ := list_inv (take := RS.termed) (enc := tmB) (fun s hb he hu => termed_inv hb he hu) (fun s hs => (termed_byt hs).1) (num_byt (num_byt (num_byt (num_byt hb)))) he hu
    have e4 := list_e0 he
    have e3 := num_e0 e4
    have e2 := num_e0 e3
    have e1 := num_e0 e2
    have i4 := num_inv (num_byt (num_byt (num_byt hb))) e4
    have i3 := num_inv (num_byt (num_byt hb)) e3
    have i2 := num_inv (num_byt hb) e2
    have i1 := num_inv hb e1
    refine ⟨?_, rfl, rfl, rfl⟩
    simp [flsB, fieldsL, fB, putL_one, tmsB]
    rw [← i5, ← i4, ← i3, ← i2, ← i1]
  · have e2 := num_e0 he
    have i3 := num_inv (must_byt (num_byt (num_byt hb))) he
    obtain ⟨i2, _, e3⟩ := flag_inv (num_byt hb) e2
    have i1 := num_inv hb (num_e0 e3)
    refine ⟨?_, rfl, rfl, rfl⟩
    simp [flsB, fieldsL, fB, putL_one _]
    have i3' : s.num.2.flag.2.zs = numB s.num.2.flag.2.num.1 ++ s.num.2.flag.2.num.2.zs := i3
    rw [putL_one] at i2
    rw [← i3', ← i2, ← i1]
  · obtain ⟨i4, _, e4⟩ := part_inv (num_byt (num_byt (num_byt hb))) he
    have e3 := num_e0 e4
    have e2 := num_e0 e3
    have i3 := num_inv (num_byt (num_byt hb)) e4
    have i2 := num_inv (num_byt hb) e3
    have i1 := num_inv hb e2
    refine ⟨?_, rfl, rfl, rfl⟩
    simp [flsB, fieldsL, fB, putL_one]
    rw [← i4, ← i3, ← i2, ← i1]
  · obtain ⟨i1, _, _⟩ := entry_inv hb he hu
    refine ⟨?_, rfl, rfl, rfl⟩
    simp [flsB, fieldsL, fB]
    exact i1
theorem msg_inv {s : RS} (hb : Byt s.zs) (he : s.msg.2.er = 0) (hu : s.msg.2.un = false) : s.zs = msgB s.msg.1 ++ s.msg.2.zs := by
  obtain ⟨m, s', hm⟩ : ∃ m s', s.msg = (m, s') := ⟨_, _, rfl⟩
  have hm2 := hm
  rw [hm] at he hu ⊢
  simp only at he hu ⊢
  unfold RS.msg RS.kind at hm2
  simp only at hm2
  have e3 : (s.num.2.must (decide (1 ≤ s.num.1 ∧ s.num.1 ≤ 6))).num.2.num.2.er = 0 := fields_e0 (by rw [hm2]; exact he)
  have e2 := num_e0 e3
  have e1 := num_e0 e2
  have hk := must_e0 e1
  have hk2 := of_decide_eq_true hk.2
  rw [hk.2, must_true] at hm2 e3 e2
  have i1 := num_inv hb hk.1
  have i2 := num_inv (num_byt hb) e2
  have i3 := num_inv (num_byt (num_byt hb)) e3
  obtain ⟨i4, h1, h2, h3⟩ := fields_inv hk2 (num_byt (num_byt (num_byt hb))) m s' hm2 he hu
  unfold msgB
  rw [h1, h2, h3]
  simp only [putL_cons, putL_nil, List.append_assoc, List.nil_append]
  rw [← i4, ← i3, ← i2, ← i1]
theorem tu_inv {l : List Int} (hb : Byt l) (h : (tu l).2.2 = 0) : sealB (tu l).1 = l.take (tu l).2.1 := by
  have hp := tn_put l hb
  have hle := tn_le l
  unfold tu at h ⊢
  obtain ⟨v, a, e, htn⟩ : ∃ v a e, tn l = (v, a, e) := ⟨_, _, _, rfl⟩
  rw [htn] at h hp hle ⊢
  simp only at h hp hle ⊢
  by_cases h1 : e ≠ 0
  · rw [if_pos h1] at h; exact absurd h h1
  rw [if_neg h1] at h ⊢
  by_cases h2 : v < 0
  · rw [if_pos h2] at h; cases h
  rw [if_neg h2] at h ⊢
  by_cases h3 : 1048576 < v
  · rw [if_pos h3] at h; cases h
  rw [if_neg h3] at h ⊢
  by_cases h4 : (l.length : Int) - a < v + 8
  · rw [if_pos h4] at h; cases h
  rw [if_neg h4] at h ⊢
  obtain ⟨n, rfl⟩ : ∃ n : Nat, v = n := ⟨v.toNat, by omega⟩
  simp only [Int.toNat_natCast] at h ⊢
  by_cases h5 : valL ((l.drop (a + n)).take 8) ≠ chkF c0 ((l.drop a).take n)
  · rw [if_pos h5] at h; cases h
  rw [if_neg h5]
  have h0 : e = 0 := Classical.byContradiction h1
  have h5' := Classical.byContradiction h5
  obtain ⟨hp1, _, _⟩ := hp h0
  have hle1 := hle h0
  have hl1 : ((l.drop a).take n).length = n := by simp; omega
  have hc := chkF_bounds c0 ((l.drop a).take n) c0_bounds.1 c0_bounds.2
  have hlow := (val_low ((l.drop (a + n)).take 8) ((hb.drop _).take _) (by simp; omega) _ hc.1 hc.2).2 h5'
  rw [sealB_parts, hl1, hlow, hp1]
  have e1 : l.take (a + n + 8) = l.take a ++ ((l.drop a).take n ++ ((l.drop (a + n)).take 8)) := by
    rw [Nat.add_assoc, List.take_add, List.take_add, List.drop_drop]
  exact e1.symm
theorem unm_inv {b : List Int} {n : MsgD} (hb : Byt b) (h : unm b = (n, 0)) : marE n = 0 ∧ marB n = b := by
  unfold unm at h
  by_cases h1 : (tu b).2.2 ≠ 0
  · rw [if_pos h1] at h
    exact absurd (Prod.mk.inj h).2 h1
  rw [if_neg h1] at h
  have h10 : (tu b).2.2 = 0 := Classical.byContradiction h1
  by_cases h2 : (tu b).2.1 < b.length
  · rw [if_pos h2] at h
    exact absurd (Prod.mk.inj h).2 (by decide)
  rw [if_neg h2] at h
  have hbd := tu_byt hb
  have hsm := tu_small b
  have hsl := tu_inv hb h10
  rw [List.take_of_length_le (by omega)] at hsl
  have hmi := msg_inv (s := RS.mk (tu b).1 0 false) hbd
  generalize (RS.mk (tu b).1 0 false).msg = p at h hmi
  unfold finM at h
  by_cases h3 : p.2.fin.fault (mayMsg p.1) = 0
  · rw [if_pos h3] at h
    obtain rfl := (Prod.mk.inj h).1
    have he : p.2.er = 0 ∧ p.2.zs = [] := by
      by_cases g : p.2.er = 0 ∧ p.2.zs ≠ []
      · rw [fin_yes g] at h3
        simp [RS.fault] at h3
      · rw [fin_no g] at h3
        by_cases g0 : p.2.er = 0
        · exact ⟨g0, Classical.byContradiction fun g1 => g ⟨g0, g1⟩⟩
        · simp [RS.fault, g0] at h3
    rw [fin_no (fun g => g.2 he.2)] at h3
    have hq : mayMsg p.1 = true ∧ p.2.un = false := by
      unfold RS.fault at h3
      rw [if_neg (fun g => g he.1)] at h3
      cases c1 : mayMsg p.1 <;> cases c2 : p.2.un <;> simp [c1, c2] at h3 ⊢
    have hd := hmi he.1 hq.2
    simp only at hd
    rw [he.2, List.append_nil] at hd
    have hE : marE p.1 = 0 := by
      simp only [marE, hq.1, if_true]
      rw [if_neg (by rw [← hd]; omega)]
    refine ⟨hE, ?_⟩
    simp only [marB, hE, if_true]
    rw [← hd]
    exact hsl
  · rw [if_neg h3] at h
    exact absurd (Prod.mk.inj h).2 h3
theorem takeE_inv {b : List Int} {y : EntD} (hb : Byt b) (h : takeE b = (y, 0)) : mayE y = true ∧ entB y = b := by
  unfold takeE at h
  simp only at h
  have hmi := entry_inv (s := RS.mk b 0 false) hb
  generalize (RS.mk b 0 false).entry = p at h hmi
  by_cases h3 : p.2.fin.fault (mayE p.1) = 0
  · rw [if_pos h3] at h
    obtain rfl := (Prod.mk.inj h).1
    have he : p.2.er = 0 ∧ p.2.zs = [] := by
      by_cases g : p.2.er = 0 ∧ p.2.zs ≠ []
      · rw [fin_yes g] at h3
        simp [RS.fault] at h3
      · rw [fin_no g] at h3
        by_cases g0 : p.2.er = 0
        · exact ⟨g0, Classical.byContradiction fun g1 => g ⟨g0, g1⟩⟩
        · simp [RS.fault, g0] at h3
    rw [fin_no (fun g => g.2 he.2)] at h3
    have hq : mayE p.1 = true ∧ p.2.un = false := by
      unfold RS.fault at h3
      rw [if_neg (fun g => g he.1)] at h3
      cases c1 : mayE p.1 <;> cases c2 : p.2.un <;> simp [c1, c2] at h3 ⊢
    have hd := (hmi he.1 hq.2).1
    simp only at hd
    rw [he.2, List.append_nil] at hd
    exact ⟨hq.1, hd.symm⟩
  · rw [if_neg h3] at h
    exact absurd (Prod.mk.inj h).2 h3

theorem key_fit {s : RS} (hb : Byt s.zs) : (-2147483648 ≤ s.key.1.1 ∧ s.key.1.1 ≤ 2147483647) ∧ (-9223372036854775808 ≤ s.key.1.2 ∧ s.key.1.2 ≤ 9223372036854775807) := ⟨w32_bounds _, num_fit (fit32_byt hb)⟩
theorem txn_fit {s : RS} (h : Byt s.zs) : FitT s.txn.1 := by
  have h1 := num_byt h
  have h2 := num_byt h1
  have h3 := blob_byt h2
  have h4 := list_byt (take := RS.num) (P := fun n => -9223372036854775808 ≤ n ∧ n ≤ 9223372036854775807) (fun s hs => ⟨num_byt hs, num_fit hs⟩) h3.1
  have h5 := list_byt (take := RS.key) (P := fun k => (-2147483648 ≤ k.1 ∧ k.1 ≤ 2147483647) ∧ (-9223372036854775808 ≤ k.2 ∧ k.2 ≤ 9223372036854775807)) (fun s hs => ⟨key_byt hs, key_fit hs⟩) h4.1
  have h6 := list_byt (take := RS.key) (P := fun k => (-2147483648 ≤ k.1 ∧ k.1 ≤ 2147483647) ∧ (-9223372036854775808 ≤ k.2 ∧ k.2 ≤ 9223372036854775807)) (fun s hs => ⟨key_byt hs, key_fit hs⟩) h5.1
  exact ⟨num_fit h, num_fit h1, h3.2, h4.2, h5.2, h6.2⟩
theorem entry_fit {s : RS} (h : Byt s.zs) : FitE s.entry.1 := by
  have hr := entry_byt h
  have ha : ∀ t ∈ s.entry.1.txns, t.args.length ≤ 9223372036854775807 := fun t ht => by have := (hr.2.2 t ht).args; omega
  unfold RS.entry RS.kind at ha ⊢
  simp only at ha ⊢
  split
  · rename_i hk
    rw [if_pos hk] at ha
    have b1 := must_byt (b := decide (0 ≤ s.num.1 ∧ s.num.1 ≤ 1)) (num_byt h)
    exact ⟨num_fit h, num_fit b1, num_fit (num_byt b1), (list_byt (take := RS.txn) (P := FitT) (fun s hs => ⟨(txn_byt hs).1, txn_fit hs⟩) (num_byt (num_byt b1))).2, ha⟩
  · exact ⟨num_fit h, zfit, zfit, (fun t ht => by cases ht), (fun t ht => by cases ht)⟩
theorem fit_zero : FitE ⟨0, 0, 0, []⟩ := ⟨zfit, zfit, zfit, (fun t ht => by cases ht), (fun t ht => by cases ht)⟩
theorem takeE_fit {zs : List Int} (h : Byt zs) : FitE (takeE zs).1 := by
  unfold takeE
  simp only
  split
  · exact entry_fit (s := ⟨zs, 0, false⟩) h
  · exact fit_zero
theorem field_fit {f : Int} {m : MsgD} {s : RS} (hm : FitM m) (h : Byt s.zs) : FitM (RS.field f m s).1 := by
  unfold RS.field
  split
  · exact ⟨num_fit h, hm.slot, hm.last, hm.commit, hm.list, hm.ent, hm.part⟩
  split
  · exact ⟨hm.term, num_fit h, hm.last, hm.commit, hm.list, hm.ent, hm.part⟩
  split
  · exact ⟨hm.term, hm.slot, num_fit h, hm.commit, hm.list, hm.ent, hm.part⟩
  split
  · exact ⟨hm.term, hm.slot, hm.last, num_fit h, hm.list, hm.ent, hm.part⟩
  split
  · exact ⟨hm.term, hm.slot, hm.last, hm.commit, hm.list, hm.ent, hm.part⟩
  split
  · exact ⟨hm.term, hm.slot, hm.last, hm.commit, (list_byt (take := RS.termed) (P := FitTm) (fun s hs => ⟨(termed_byt hs).1, ⟨num_fit hs, entry_fit (num_byt hs)⟩⟩) h).2, hm.ent, hm.part⟩
  split
  · exact ⟨hm.term, hm.slot, hm.last, hm.commit, hm.list, entry_fit h, hm.part⟩
  · exact ⟨hm.term, hm.slot, hm.last, hm.commit, hm.list, hm.ent, ⟨num_fit h, num_fit (num_byt h), num_fit (num_byt (num_byt h))⟩⟩
theorem field_kind {f : Int} {m : MsgD} {s : RS} : (RS.field f m s).1.kind = m.kind ∧ (RS.field f m s).1.frm = m.frm ∧ (RS.field f m s).1.to = m.to := by
  unfold RS.field
  repeat' split
  all_goals exact ⟨rfl, rfl, rfl⟩
theorem fields_fit : ∀ (F : List Int) {m : MsgD} {s : RS}, FitM m → ReadM m → Byt s.zs → FitM (RS.fields F m s).1 ∧ (RS.fields F m s).1.kind = m.kind ∧ (RS.fields F m s).1.frm = m.frm ∧ (RS.fields F m s).1.to = m.to
  | [], _, _, hm, _, _ => ⟨hm, rfl, rfl, rfl⟩
  | f :: F, m, s, hm, hr, h => by
    have h1 := field_fit (f := f) hm h
    have h2 := field_byt (f := f) hr h
    have h3 := field_kind (f := f) (m := m) (s := s)
    have h4 := fields_fit F h1 h2.1 h2.2
    exact ⟨h4.1, h4.2.1.trans h3.1, h4.2.2.1.trans h3.2.1, h4.2.2.2.trans h3.2.2⟩
def Fits (m : MsgD) : Prop := FitM m ∧ (-9223372036854775808 ≤ m.kind ∧ m.kind ≤ 9223372036854775807) ∧ (-9223372036854775808 ≤ m.frm ∧ m.frm ≤ 9223372036854775807) ∧ (-9223372036854775808 ≤ m.to ∧ m.to ≤ 9223372036854775807)
theorem read_zero : ReadM dG := ⟨by simp [dG], (fun t ht => by cases ht), ⟨by simp [dG], fun t ht => by cases ht⟩, byt_nil⟩
theorem fits_zero : Fits dG := ⟨⟨zfit, zfit, zfit, zfit, (fun t ht => by cases ht), fit_zero, ⟨zfit, zfit, zfit⟩⟩, zfit, zfit, zfit⟩
theorem unm_fit {zs : List Int} (h : Byt zs) : Fits (unm zs).1 ∧ ReadM (unm zs).1 := by
  unfold unm
  split
  · exact ⟨fits_zero, read_zero⟩
  split
  · exact ⟨fits_zero, read_zero⟩
  unfold finM
  split
  · have hb := tu_byt h
    have hr := (msg_byt (s := ⟨(tu zs).1, 0, false⟩) hb).1
    refine ⟨?_, hr⟩
    unfold RS.msg RS.kind
    simp only
    have b1 := must_byt (b := decide (1 ≤ (RS.mk (tu zs).1 0 false).num.1 ∧ (RS.mk (tu zs).1 0 false).num.1 ≤ 6)) (num_byt (s := ⟨(tu zs).1, 0, false⟩) hb)
    obtain ⟨f1, f2, f3, f4⟩ := fields_fit (fieldsL (RS.mk (tu zs).1 0 false).num.1) (m := ⟨(RS.mk (tu zs).1 0 false).num.1, ((RS.mk (tu zs).1 0 false).num.2.must (decide (1 ≤ (RS.mk (tu zs).1 0 false).num.1 ∧ (RS.mk (tu zs).1 0 false).num.1 ≤ 6))).num.1, ((RS.mk (tu zs).1 0 false).num.2.must (decide (1 ≤ (RS.mk (tu zs).1 0 false).num.1 ∧ (RS.mk (tu zs).1 0 false).num.1 ≤ 6))).num.2.num.1, 0, 0, 0, 0, false, [], ⟨0, 0, 0, []⟩, ⟨0, 0, 0, []⟩⟩) (s := ((RS.mk (tu zs).1 0 false).num.2.must (decide (1 ≤ (RS.mk (tu zs).1 0 false).num.1 ∧ (RS.mk (tu zs).1 0 false).num.1 ≤ 6))).num.2.num.2) ⟨zfit, zfit, zfit, zfit, (fun t ht => by cases ht), fit_zero, ⟨zfit, zfit, zfit⟩⟩ ⟨by simp, (fun t ht => by cases ht), ⟨by simp, (fun t ht => by cases ht)⟩, byt_nil⟩ (num_byt (num_byt b1))
    exact ⟨f1, by rw [f2]; exact num_fit (s := ⟨(tu zs).1, 0, false⟩) hb, by rw [f3]; exact num_fit b1, by rw [f4]; exact num_fit (num_byt b1)⟩
  · exact ⟨fits_zero, read_zero⟩
end Go.Proofs.YtggllgimlfchhabGreat
