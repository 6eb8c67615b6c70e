/- Several texts as one. -/
import Derived.Test.YtoddemcmmijoaaaKH
import Derived.Test.YtoddemcmmijoaaaKG

/- Links: Many, Whole, Len, ask. -/
namespace Go.Proofs.Ytoddemcmmijoaaa
open Go.RowKit Go.Deep
open Go.ChangeMaps (setBlock)
set_option maxRecDepth 100000

set_option maxHeartbeats 800000 in
theorem many_any {base : Nat} {w : World} {P mb : Nat} {st : List PD} (H : LInv base w P mb st) {a b : Int} {q : PD} (hq : lk st a b = some q) (ha : -9223372036854775808 ≤ a ∧ a ≤ 9223372036854775807) (hb : -9223372036854775808 ≤ b ∧ b ≤ 9223372036854775807) :
    Calls Try.prog 12 #[P0 P, keyV a b] w fun e w' => e = .returned (.int .i64 q.l.length) ∧ Below w.heap.size w w' := by
  have hB0 := below_box (w := w) #[.int .i64 a, .int .i64 b] 24
  have HF := hide (find_any (H.below hB0) ha hb)
  rw [hq] at HF
  simp only [ptrOf, eOf] at HF
  have hqm := (lk_some hq).1
  have HQ : Hid (∀ x, Below w.heap.size w x → x.cell? ⟨q.g, 1, none⟩ = some q.v) := fun x hx => ((H.below hx).pipe q hqm).cell1
  obtain ⟨ao, cap, hv⟩ := (H.pipe q hqm).row.shape
  rw [hv] at HQ
  have HB0 := hide hB0
  have hbx : (w.alloc (.cells #[.int .i64 a, .int .i64 b] 24)).heap[w.heap.size]? = some (.cells #[.int .i64 a, .int .i64 b] 24) := heap_alloc_new w _
  have g0 : (w.alloc (.cells #[.int .i64 a, .int .i64 b] 24)).cell? ⟨w.heap.size, 0, none⟩ = some (.int .i64 a) := cell_of_heap' hbx
  have g1 : (w.alloc (.cells #[.int .i64 a, .int .i64 b] 24)).cell? ⟨w.heap.size, 1, none⟩ = some (.int .i64 b) := cell_of_heap' hbx
  clear H hB0 hbx hq hqm hv
  unfold keyV at *
  go_enter Try.func12, Try.ntmps12
  go_wp2_with (go_at_call 14; refine (unhide HF).mono ?_; rintro e w1 ⟨rfl, hb1⟩; have hb2 := (unhide HB0).trans (hb1.mono (by simp)); have c1 := unhide HQ w1 hb2)
  go_wp2
  go_ret
  exact ⟨rfl, hb2⟩
set_option maxHeartbeats 800000 in
theorem whole_none {base : Nat} {w : World} {P mb : Nat} {st : List PD} (H : LInv base w P mb st) {a b : Int} (hq : lk st a b = none) (ha : -9223372036854775808 ≤ a ∧ a ≤ 9223372036854775807) (hb : -9223372036854775808 ≤ b ∧ b ≤ 9223372036854775807) :
    Calls Try.prog 13 #[P0 P, keyV a b] w fun e w' => e = .returned (.bool false) ∧ Below w.heap.size w w' := by
  have hB0 := below_box (w := w) #[.int .i64 a, .int .i64 b] 24
  have HF := hide (find_any (H.below hB0) ha hb)
  rw [hq] at HF
  simp only [ptrOf, eOf] at HF
  have HB0 := hide hB0
  have hbx : (w.alloc (.cells #[.int .i64 a, .int .i64 b] 24)).heap[w.heap.size]? = some (.cells #[.int .i64 a, .int .i64 b] 24) := heap_alloc_new w _
  have g0 : (w.alloc (.cells #[.int .i64 a, .int .i64 b] 24)).cell? ⟨w.heap.size, 0, none⟩ = some (.int .i64 a) := cell_of_heap' hbx
  have g1 : (w.alloc (.cells #[.int .i64 a, .int .i64 b] 24)).cell? ⟨w.heap.size, 1, none⟩ = some (.int .i64 b) := cell_of_heap' hbx
  clear H hB0 hbx hq
  unfold keyV at *
  go_enter Try.func13, Try.ntmps13
  go_wp2_with (go_at_call 14; refine (unhide HF).mono ?_; rintro e w1 ⟨rfl, hb1⟩; have hb2 := (unhide HB0).trans (hb1.mono (by simp)))
  go_wp2
  go_ret
  exact ⟨rfl, hb2⟩
/-- The message that ask makes. -/
def askM (n : Int) : MsgD := { kind := 1, frm := 0, to := 1, term := 1 + n, slot := 0, last := 0, commit := 0, yes := false, list := [], ent := ⟨0, 0, 0, []⟩, part := ⟨0, 0, 0, []⟩ }
abbrev askC (n : Int) : Array Value := #[.int .i64 1, .int .i64 0, .int .i64 1, .int .i64 (1 + n), .int .i64 0, .int .i64 0, .int .i64 0, .bool false, .slice none 0 0, .int .i64 0, .int .i64 0, .int .i64 0, .slice none 0 0, .int .i64 0, .int .i64 0, .int .i64 0, .slice none 0 0]
theorem ask_sees (w : World) (n : Int) : SeesM w (askC n) (askM n) := ⟨_, _, _, rfl, SeesTms.nil _, ⟨none, 0, 0, 0, rfl, Nat.le_refl _, by simp [askM], fun h => absurd h (by simp [askM]), fun t h => absurd h (by simp [askM])⟩, Sees.nil _ _⟩
theorem ask_size (n : Int) : SizeM (askM n) := by
  refine ⟨by simp [askM], ?_, by simp [askM], ?_, by simp [askM], ⟨?_, ?_, ?_⟩⟩ <;> intro x h <;> cases h
set_option maxHeartbeats 800000 in
theorem ask_any (n : Int) (hn : n = 1 ∨ n = 2) (w : World) : Calls Try.prog 10 #[.int .i64 n] w fun e w' => e = .returned (.agg (askC n)) ∧ Below w.heap.size w w' := by
  have hw : wrap64 (1 + n) = 1 + n := by rcases hn with rfl | rfl <;> (unfold wrap64; omega)
  have hal := below_box (w := w) z17 38
  have hx0 : (w.alloc (.cells z17 38)).heap[w.heap.size]? = some (.cells z17 38) := heap_alloc_new w _
  obtain ⟨y0, hy0⟩ : ∃ y, w.alloc (.cells z17 38) = y := ⟨_, rfl⟩
  rw [hy0] at hal hx0
  have HB9 : Hid (Below w.heap.size w (y0.setRow w.heap.size (askC n))) := below_setRow hal (Nat.le_refl _)
  have HZ9 : Hid ((y0.setRow w.heap.size (askC n)).heap[w.heap.size]? = some (.cells (askC n) 38)) := setRow_heap _ _ _ _ _ _ hx0
  obtain ⟨y9, hy9⟩ : ∃ y, y0.setRow w.heap.size (askC n) = y := ⟨_, rfl⟩
  rw [hy9] at HB9 HZ9
  have HZ := hide hx0
  clear hal hx0 hn
  go_enter Try.func10, Try.ntmps10
  go_wp2_with (first | rw [hy0] | rw [hy9] | refine wpList_store_row rfl 38 _ _ rfl w.heap.size _ _ rfl rfl 38 (unhide HZ) (by kernel_rfl) rfl (by first | kernel_rfl | simp [Value.oneCell']) ?_)
  refine bodyPost_ret (results_cell_row rfl _ _ w.heap.size 38 (askC n) (0, 0) _ rfl (unhide HZ9) Try.underlying38 rfl (by kernel_rfl)) rfl ?_
  exact ⟨rfl, unhide HB9⟩

/-! ### Len -/
/-- How much the entries that were seen bring. -/
def sumS (f : MapEntry → Nat) (seen : Array Nat) : List MapEntry → Nat
  | [] => 0
  | e :: r => (if e.born ∈ seen then f e else 0) + sumS f seen r
theorem sumS_same (f : MapEntry → Nat) {seen : Array Nat} {b : Nat} : ∀ {l : List MapEntry}, (∀ e ∈ l, e.born ≠ b) → sumS f (seen.push b) l = sumS f seen l
  | [], _ => rfl
  | e :: r, h => by
    have h1 := h e (List.mem_cons_self ..)
    rw [sumS, sumS, sumS_same f (fun x hx => h x (List.mem_cons_of_mem _ hx))]
    have : (e.born ∈ seen.push b) ↔ e.born ∈ seen := by rw [Array.mem_push]; exact ⟨fun h => h.resolve_right h1, .inl⟩
    simp only [this]
theorem sumS_step (f : MapEntry → Nat) {seen : Array Nat} {e : MapEntry} (hs : ¬ e.born ∈ seen) : ∀ {l : List MapEntry}, (l.map (·.born)).Nodup → e ∈ l → sumS f (seen.push e.born) l = sumS f seen l + f e
  | [], _, h => by cases h
  | x :: r, hn, h => by
    rw [List.map_cons, List.nodup_cons] at hn
    rcases List.mem_cons.1 h with rfl | h
    · rw [sumS, sumS, sumS_same f (fun y hy c => hn.1 (by rw [← c]; exact List.mem_map.2 ⟨y, hy, rfl⟩)), if_neg hs, if_pos (Array.mem_push.2 (.inr rfl))]
      omega
    · have hne : x.born ≠ e.born := fun c => hn.1 (by rw [c]; exact List.mem_map.2 ⟨e, h, rfl⟩)
      rw [sumS, sumS, sumS_step f hs hn.2 h]
      have : (x.born ∈ seen.push e.born) ↔ x.born ∈ seen := by rw [Array.mem_push]; exact ⟨fun h => h.resolve_right hne, .inl⟩
      simp only [this]
      omega
theorem sumS_none (f : MapEntry → Nat) : ∀ l, sumS f #[] l = 0
  | [] => rfl
  | e :: r => by rw [sumS, sumS_none f r]; simp
theorem sumS_all (f : MapEntry → Nat) {seen : Array Nat} : ∀ {l : List MapEntry}, (∀ e ∈ l, e.born ∈ seen) → sumS f seen l = (l.map f).sum
  | [], _ => rfl
  | e :: r, h => by
    rw [sumS, sumS_all f (fun x hx => h x (List.mem_cons_of_mem _ hx)), if_pos (h e (List.mem_cons_self ..)), List.map_cons, List.sum_cons]
theorem sumS_le (f : MapEntry → Nat) {seen : Array Nat} {B : Nat} : ∀ {l : List MapEntry}, (∀ e ∈ l, f e ≤ B) → sumS f seen l ≤ l.length * B
  | [], _ => Nat.zero_le _
  | e :: r, h => by
    have h1 := sumS_le f (seen := seen) (fun x hx => h x (List.mem_cons_of_mem _ hx))
    have h2 := h e (List.mem_cons_self ..)
    rw [sumS, List.length_cons, Nat.add_mul]
    split <;> omega
def ptrBlk : Value → Option Nat
  | .pointer (some a) => some a.block
  | _ => none
/-- How many messages the pipe has to which a value points. -/
def lenB (st : List PD) (v : Value) : Nat := ((st.find? fun q => decide (ptrBlk v = some q.g)).map (·.l.length)).getD 0
def lenV (st : List PD) (e : MapEntry) : Nat := lenB st e.val
theorem LInv.find_val {base : Nat} {w : World} {P mb : Nat} {st : List PD} (H : LInv base w P mb st) {q : PD} (hq : q ∈ st) : lenB st (.pointer (some ⟨q.g, 0, none⟩)) = q.l.length := by
  have : st.find? (fun r => decide (ptrBlk (.pointer (some ⟨q.g, 0, none⟩)) = some r.g)) = some q := by
    cases hf : st.find? (fun r => decide (ptrBlk (.pointer (some ⟨q.g, 0, none⟩)) = some r.g)) with
    | none =>
      rw [List.find?_eq_none] at hf
      exact absurd (decide_eq_true rfl) (hf q hq)
    | some r =>
      have h1 := List.mem_of_find?_eq_some hf
      have h2 : q.g = r.g := by have := List.find?_some hf; simpa [ptrBlk] using this
      obtain ⟨i, hi, rfl⟩ := List.getElem_of_mem hq
      obtain ⟨k, hk, rfl⟩ := List.getElem_of_mem h1
      have hpw := List.pairwise_iff_getElem.1 H.apart
      rcases Nat.lt_trichotomy i k with c | c | c
      · exact absurd (.inl h2) ((hpw i k hi hk c).1 _ (.inl rfl))
      · subst c; rfl
      · exact absurd (.inl h2.symm) ((hpw k i hk hi c).1 _ (.inl rfl))
  unfold lenB
  rw [this]
  rfl
def total (st : List PD) : Nat := (st.map (·.l.length)).sum
theorem LInv.total_eq {base : Nat} {w : World} {P mb : Nat} {st : List PD} (H : LInv base w P mb st) {es : Array MapEntry} (hes : es.toList.map (fun e => (e.key, e.val)) = st.map fun q => (keyV q.f q.t, .pointer (some ⟨q.g, 0, none⟩))) : (es.toList.map (lenV st)).sum = total st := by
  have h1 : es.toList.map (lenV st) = (es.toList.map (fun e => (e.key, e.val))).map (fun x => lenB st x.2) := by rw [List.map_map]; rfl
  rw [h1, hes, List.map_map, total]
  congr 1
  exact List.map_congr_left fun q hq => H.find_val hq
theorem blk_same {w : World} {b : Nat} {o o' : Obj} (h : w.heap[b]? = some o) : (setBlock w b o').heap[b]? = some o' := by
  have := (Array.getElem?_eq_some_iff.1 h).1
  simp [setBlock, this]
theorem blk_other {w : World} {b k : Nat} {o' : Obj} (h : k ≠ b) : (setBlock w b o').heap[k]? = w.heap[k]? := by
  simp [setBlock, Ne.symm h]
theorem filter_le {f g : MapEntry → Bool} (h : ∀ x, f x = true → g x = true) : ∀ l : List MapEntry, (l.filter f).length ≤ (l.filter g).length
  | [] => Nat.le_refl _
  | x :: r => by
    have ih := filter_le h r
    by_cases hfx : f x = true
    · rw [List.filter_cons_of_pos hfx, List.filter_cons_of_pos (h x hfx)]; simp only [List.length_cons]; omega
    · rw [List.filter_cons_of_neg hfx]
      by_cases hgx : g x = true
      · rw [List.filter_cons_of_pos hgx]; simp only [List.length_cons]; omega
      · rw [List.filter_cons_of_neg hgx]; exact ih
theorem filter_less {f g : MapEntry → Bool} (h : ∀ x, f x = true → g x = true) : ∀ {l : List MapEntry} {e : MapEntry}, e ∈ l → g e = true → f e = false → (l.filter f).length < (l.filter g).length
  | [], _, h1, _, _ => by cases h1
  | x :: r, e, h1, h2, h3 => by
    have hle := filter_le h r
    rcases List.mem_cons.1 h1 with rfl | h1
    · rw [List.filter_cons_of_neg (by rw [h3]; decide), List.filter_cons_of_pos h2, List.length_cons]
      omega
    · have ih := filter_less h h1 h2 h3
      by_cases hfx : f x = true
      · rw [List.filter_cons_of_pos hfx, List.filter_cons_of_pos (h x hfx)]; simp only [List.length_cons]; omega
      · rw [List.filter_cons_of_neg hfx]
        by_cases hgx : g x = true
        · rw [List.filter_cons_of_pos hgx]; simp only [List.length_cons]; omega
        · rw [List.filter_cons_of_neg hgx]; exact ih
theorem left_less {es : Array MapEntry} {seen : Array Nat} {e : MapEntry} (he : e ∈ es.toList) (hs : ¬ e.born ∈ seen) : (leftOf es (seen.push e.born)).size < (leftOf es seen).size := by
  have key : ∀ f : MapEntry → Bool, (es.filter f).size = (es.toList.filter f).length := fun f => by rw [← Array.length_toList]; simp
  unfold leftOf
  rw [key, key]
  refine filter_less (fun x hx => ?_) he (by simpa using hs) (by simp)
  simp only [Bool.not_eq_true', Array.contains_eq_mem, decide_eq_false_iff_not, Array.mem_push, not_or] at hx ⊢
  exact hx.1
set_option maxHeartbeats 1600000 in
theorem len_any {base : Nat} {w : World} {P mb : Nat} {st : List PD} (H : LInv base w P mb st) (hst : st.length ≤ 100) :
    Calls Try.prog 11 #[P0 P] w fun e w' => e = .returned (.int .i64 (total st)) ∧ Below w.heap.size w w' := by
  have HM := hide (made_any H)
  have hcP : w.cell? ⟨P, 0, none⟩ = some (.map (some mb)) := by rw [cell_heapM H.box]; rfl
  obtain ⟨hmb0, es, clock, hm, hes, hbn⟩ := H.map
  have hmlt : mb < w.heap.size := (Array.getElem?_eq_some_iff.1 hm).1
  have hR := run_range_map (P := Try.prog) w 44 24 50 mb es clock Try.underlying44 hm
  have hent : ∀ e ∈ es.toList, ∃ q ∈ st, e.val = .pointer (some ⟨q.g, 0, none⟩) ∧ lenV st e = q.l.length := fun e he => by
    have : (e.key, e.val) ∈ es.toList.map (fun e => (e.key, e.val)) := List.mem_map.2 ⟨e, he, rfl⟩
    rw [hes] at this
    obtain ⟨q, hq, e1⟩ := List.mem_map.1 this
    simp only [Prod.mk.injEq] at e1
    exact ⟨q, hq, e1.2.symm, by unfold lenV; rw [← e1.2]; exact H.find_val hq⟩
  have hl256 : ∀ e ∈ es.toList, lenV st e ≤ 256 := fun e he => by
    obtain ⟨q, hq, _, h⟩ := hent e he
    rw [h]
    exact (H.pipe q hq).short
  have hlen : es.toList.length ≤ 100 := by have := congrArg List.length hes; simp only [List.length_map] at this; omega
  have HT := hide (H.total_eq hes)
  have HQ : Hid (∀ x, Below w.heap.size w x → ∀ q ∈ st, x.cell? ⟨q.g, 1, none⟩ = some q.v ∧ ∃ ao cap, q.v = .slice ao q.l.length cap) := fun x hx q hq => ⟨((H.below hx).pipe q hq).cell1, (H.pipe q hq).row.shape⟩
  have HE := hide (And.intro hent (And.intro hl256 (And.intro hlen (And.intro hbn (And.intro hm hmlt)))))
  clear H hst hes hent hl256 hlen hbn hmb0
  go_enter Try.func11, Try.ntmps11
  go_wp2_with (first | (go_at_call 26; refine (unhide HM).mono ?_; rintro e w1 ⟨rfl, rfl⟩))
  go_loopw [3] (fun u wr => ∃ seen c0, u = .int .i64 (sumS (lenV st) seen es.toList) ∧ wr.heap[w.heap.size]? = some (.mapIter (some mb) clock seen c0) ∧ clock ≤ c0 ∧ Below w.heap.size w wr)
    (fun _ wr => match wr.heap[w.heap.size]? with | some (.mapIter _ _ seen _) => (leftOf es seen).size | _ => 0)
  case atStart => exact ⟨#[], clock, by rw [sumS_none]; rfl, heap_alloc_new w _, Nat.le_refl _, (Below.refl _ _).alloc (Nat.le_refl _) _⟩
  case round =>
    obtain ⟨seen, c0, rfl, hit, hcc, hb⟩ := hrel
    obtain ⟨hent, hl256, hlen, hbn, hm, hmlt⟩ := unhide HE
    have hmw : wr.heap[mb]? = some (.map es clock) := (hb.block _ hmlt).trans hm
    rcases run_next_at (P := Try.prog) wr 0 w.heap.size mb clock c0 seen es clock hit hmw (fun x hx => hbn.2 x hx) hcc with ⟨h0, hrun⟩ | ⟨e, he, w1, hw1, hrun⟩
    · have hall : ∀ e ∈ es.toList, e.born ∈ seen := fun e he => by
        apply Classical.byContradiction
        intro hne
        have : e ∈ leftOf es seen := by
          unfold leftOf
          rw [Array.mem_filter]
          exact ⟨Array.mem_toList_iff.1 he, by simpa using hne⟩
        have hp := Array.size_pos_of_mem this
        omega
      have hsum : sumS (lenV st) seen es.toList = total st := (sumS_all _ hall).trans (unhide HT)
      rw [hsum]
      have HB := hide hb
      clear hb hit hmw h0 hall hsum hent hl256 hlen hbn hm
      go_wp2
      go_ret
      exact ⟨rfl, unhide HB⟩
    · have hef : e ∈ es.toList ∧ ¬ e.born ∈ seen := by
        have h1 : e ∈ leftOf es seen := Array.mem_toList_iff.1 he
        unfold leftOf at h1
        rw [Array.mem_filter] at h1
        exact ⟨Array.mem_toList_iff.2 h1.1, by simpa using h1.2⟩
      have hwb : Below w.heap.size w w1 := by rcases hw1 with rfl | rfl; exact hb; exact hb.drew
      have hit1 : w1.heap[w.heap.size]? = some (.mapIter (some mb) clock seen c0) := by rcases hw1 with rfl | rfl <;> exact hit
      have hit2 : (setBlock w1 w.heap.size (.mapIter (some mb) clock (seen.push e.born) clock)).heap[w.heap.size]? = some (.mapIter (some mb) clock (seen.push e.born) clock) := blk_same hit1
      have hb2 : Below w.heap.size w (setBlock w1 w.heap.size (.mapIter (some mb) clock (seen.push e.born) clock)) := hwb.trans ⟨rfl, rfl, rfl, by simp [setBlock], fun k hk => blk_other (by omega)⟩
      obtain ⟨y, hy⟩ : ∃ y, setBlock w1 w.heap.size (.mapIter (some mb) clock (seen.push e.born) clock) = y := ⟨_, rfl⟩
      rw [hy] at hit2 hb2 hrun
      have hen := run_entry_at (P := Try.prog) y w.heap.size mb clock seen es clock e hit2 ((hb2.block _ hmlt).trans hm) hef.1 hbn.1
      obtain ⟨q, hq, hev, hlq⟩ := hent e hef.1
      obtain ⟨hc1, ao, cap, hqv⟩ := unhide HQ y hb2 q hq
      rw [hqv] at hc1
      rw [hev] at hrun hen
      have hstep := sumS_step (lenV st) hef.2 hbn.1 hef.1
      rw [hlq] at hstep
      have hle : sumS (lenV st) (seen.push e.born) es.toList ≤ 25600 := by
        have := sumS_le (lenV st) (seen := seen.push e.born) hl256
        have := Nat.mul_le_mul_right 256 hlen
        omega
      have hleft : (leftOf es (seen.push e.born)).size < (leftOf es seen).size := left_less hef.1 hef.2
      obtain ⟨sN, hsN⟩ : ∃ n, sumS (lenV st) (seen.push e.born) es.toList = n := ⟨_, rfl⟩
      obtain ⟨s0, hs0⟩ : ∃ n, sumS (lenV st) seen es.toList = n := ⟨_, rfl⟩
      obtain ⟨lq, hlq'⟩ : ∃ n, q.l.length = n := ⟨_, rfl⟩
      rw [hsN, hs0, hlq'] at hstep
      rw [hsN] at hle
      rw [hlq'] at hc1
      rw [hs0]
      have hwr : wrap64 ((s0 : Int) + (lq : Int)) = (sN : Int) := by unfold wrap64; omega
      have HG : Hid (y.heap[w.heap.size]? = some (.mapIter (some mb) clock (seen.push e.born) clock) ∧ Below w.heap.size w y ∧ sumS (lenV st) (seen.push e.born) es.toList = sN) := ⟨hit2, hb2, hsN⟩
      have HLT := hide hleft
      have HIT := hide hit
      obtain ⟨ek, hek⟩ : ∃ k, e.key = k := ⟨_, rfl⟩
      rw [hek] at hrun hen
      clear hit hb hcc hmw hef hwb hit1 hit2 hb2 hy hent hl256 hlen hbn hm hev hlq hqv hstep hle hsN hs0 hlq' hleft hw1 he
      go_wp2
      go_roundw
      case rel => first | exact ⟨seen.push e.born, clock, by rw [(unhide HG).2.2, hwr], (unhide HG).1, Nat.le_refl _, (unhide HG).2.1⟩ | ((repeat apply Exists.intro); exact ⟨⟨seen.push e.born, clock, by rw [(unhide HG).2.2, hwr], (unhide HG).1, Nat.le_refl _, (unhide HG).2.1⟩, rfl⟩)
      case measure => rw [(unhide HG).1, unhide HIT]; exact unhide HLT
end Go.Proofs.Ytoddemcmmijoaaa

/- Links: live. -/
namespace Go.Proofs.Ytoddemcmmijoaaa
open Go.RowKit Go.Deep
set_option maxRecDepth 100000

theorem SndL.inv {L : List MsgD} {st st2 : List PD} {c' : Nat} (h : SndL L st st2 c') : (L = [] ∧ st2 = st ∧ c' = 0) ∨ ∃ l m st1 c d, L = l ++ [m] ∧ SndL l st st1 c ∧ Snd1 m st1 st2 d ∧ c' = c + d := by
  cases h with
  | nil => exact .inl ⟨rfl, rfl, rfl⟩
  | snoc h1 h2 => exact .inr ⟨_, _, _, _, _, rfl, h1, h2, rfl⟩
theorem SndL.one {m : MsgD} {st st2 : List PD} {c : Nat} (h : SndL [m] st st2 c) : Snd1 m st st2 c := by
  rcases h.inv with ⟨e, _⟩ | ⟨l, m', st1, c1, d, e, h1, h2, rfl⟩
  · cases e
  · obtain ⟨rfl, rfl⟩ : l = [] ∧ m' = m := by
      cases l with
      | nil => simp at e; exact ⟨rfl, e.symm⟩
      | cons a r => simp at e
    rcases h1.inv with ⟨_, rfl, rfl⟩ | ⟨l, m', st1, c1, d, e, _⟩
    · simpa using h2
    · simp at e
theorem SndL.two {m1 m2 : MsgD} {st st2 : List PD} {c : Nat} (h : SndL [m1, m2] st st2 c) : ∃ st1 c1 d, Snd1 m1 st st1 c1 ∧ Snd1 m2 st1 st2 d ∧ c = c1 + d := by
  rcases h.inv with ⟨e, _⟩ | ⟨l, m', st1, c1, d, e, h1, h2, rfl⟩
  · cases e
  · have hlen : l.length = 1 := by have := congrArg List.length e; simp at this; omega
    obtain ⟨a, rfl⟩ := List.length_eq_one_iff.1 hlen
    simp only [List.cons_append, List.nil_append, List.cons.injEq, and_true] at e
    obtain ⟨rfl, rfl⟩ := e
    exact ⟨st1, c1, d, h1.one, h2, rfl⟩
def liveSt (g0 g1 : Nat) (v : Value) (l : List MsgD) : List PD := [⟨0, 1, g0, v, l, false⟩, ⟨1, 0, g1, .slice none 0 0, [], false⟩]
theorem live_lk (g0 g1 : Nat) (v : Value) (l : List MsgD) : lk (liveSt g0 g1 v l) 0 1 = some ⟨0, 1, g0, v, l, false⟩ := by simp [lk, liveSt]
theorem live_lk0 (g0 g1 : Nat) (v : Value) (l : List MsgD) : lk (liveSt g0 g1 v l) 0 0 = none := by simp [lk, liveSt]
theorem live_snd {g0 g1 : Nat} {v : Value} {l : List MsgD} {m : MsgD} {st' : List PD} {c : Nat} (hf : m.frm = 0) (ht : m.to = 1) (hm : mayMsg m = true) (hl : l.length < 256) (h : Snd1 m (liveSt g0 g1 v l) st' c) : ∃ v', st' = liveSt g0 g1 v' (l ++ [m]) ∧ c = 1 := by
  rcases h with ⟨i, q, v', hi, hq, _, _, _, rfl, rfl⟩ | ⟨hno, _, _⟩
  · rw [hf, ht, live_lk] at hq
    cases hq
    refine ⟨v', ?_, rfl⟩
    match i, hi with
    | 0, _ => rfl
    | 1, hi => simp [liveSt] at hi
    | i + 2, hi => simp [liveSt] at hi
  · have := hno _ (by rw [hf, ht]; exact live_lk g0 g1 v l)
    rcases this with h | h | h
    · cases h
    · simp only at h; omega
    · rw [hm] at h; cases h
theorem live_new {l : List (Nat × Nat × Nat)} (h : (l.map fun q => (q.1, q.2.1)) = posU 2 2) : ∃ g0 g1, (l.map fun q => (⟨q.1, q.2.1, q.2.2, .slice none 0 0, [], false⟩ : PD)) = liveSt g0 g1 (.slice none 0 0) [] := by
  have hp : posU 2 2 = [(0, 1), (1, 0)] := by decide
  rw [hp] at h
  match l, h with
  | [(a, b, g0), (c, d, g1)], h =>
    simp only [List.map_cons, List.map_nil, List.cons.injEq, Prod.mk.injEq, and_true] at h
    obtain ⟨⟨rfl, rfl⟩, rfl, rfl⟩ := h
    exact ⟨g0, g1, rfl⟩
theorem live_set {g0 g1 : Nat} {v : Value} {l : List MsgD} {i : Nat} (v' : Value) (l' : List MsgD) (hi : (liveSt g0 g1 v l)[i]? = some ⟨0, 1, g0, v, l, false⟩) : (liveSt g0 g1 v l).set i ⟨0, 1, g0, v', l', false⟩ = liveSt g0 g1 v' l' := by
  match i, hi with
  | 0, _ => rfl
  | 1, hi => simp [liveSt] at hi
  | i + 2, hi => simp [liveSt] at hi
theorem may_ask1 : mayMsg (askM 1) = true := by decide
theorem may_ask2 : mayMsg (askM 2) = true := by decide
abbrev askV (n : Int) : MV := (askM n, .slice none 0 0, .slice none 0 0, .slice none 0 0)
theorem askV_cells (n : Int) : (msgCells (askV n)).toArray = askC n := rfl
abbrev L34 : Array Value := #[.int .i64 1, .int .i64 0, .int .i64 1, .int .i64 2, .int .i64 0, .int .i64 0, .int .i64 0, .bool false, .slice none 0 0, .int .i64 0, .int .i64 0, .int .i64 0, .slice none 0 0, .int .i64 0, .int .i64 0, .int .i64 0, .slice none 0 0, .int .i64 1, .int .i64 0, .int .i64 1, .int .i64 3, .int .i64 0, .int .i64 0, .int .i64 0, .bool false, .slice none 0 0, .int .i64 0, .int .i64 0, .int .i64 0, .slice none 0 0, .int .i64 0, .int .i64 0, .int .i64 0, .slice none 0 0]
theorem ask34 : L34 = askC 1 ++ askC 2 := by kernel_rfl
theorem ask_two {x : World} {b : Nat} (h : x.heap[b]? = some (.cells L34 38)) : SeesMs x (.slice (some ⟨b, 0, none⟩) 2 2) [askV 1, askV 2] := by
  rw [ask34] at h
  refine ⟨some ⟨b, 0, none⟩, 2, b, 0, rfl, by simp, by simp, fun _ => rfl, fun t p hp => ?_⟩
  match t, hp with
  | 0, hp =>
    obtain rfl := Option.some.inj hp
    refine ⟨fun j u hu => ?_, ask_sees x 1⟩
    have hj : j < 17 := by have := (List.getElem?_eq_some_iff.1 hu).1; rwa [msgCells_len] at this
    rw [cell_heapM h, Nat.zero_mul, Nat.add_zero, Nat.zero_add, ← askV_cells 1, Array.getElem?_append_left (by simp [msgCells]; exact hj)]
    simpa using hu
  | 1, hp =>
    obtain rfl := Option.some.inj hp
    refine ⟨fun j u hu => ?_, ask_sees x 2⟩
    have hj : j < 17 := by have := (List.getElem?_eq_some_iff.1 hu).1; rwa [msgCells_len] at this
    rw [cell_heapM h, ← askV_cells 1, ← askV_cells 2, Array.getElem?_append_right (by simp [msgCells])]
    simpa [msgCells] using hu
  | t + 2, hp => simp at hp
set_option maxHeartbeats 8000000 in
theorem live_any (w : World) : Calls Try.prog 5 #[] w fun e w' => e = .returned (.bool true) ∧ Below w.heap.size w w' := by
  have HN := hide (new_any 2 (by decide) (by decide) w)
  go_enter Try.func5, Try.ntmps5
  go_wp2_with fail
  refine (unhide HN).mono ?_
  rintro e w1 ⟨P, mb, l, rfl, hL1, hl, hb1⟩
  obtain ⟨g0, g1, hst⟩ := live_new hl
  rw [hst] at hL1
  have HL1 := hide (And.intro hL1 hb1)
  have HA1 := hide (ask_any 1 (.inl rfl) w1)
  clear hL1 hb1 hl hst HN
  go_wp2_with fail
  refine (unhide HA1).mono ?_
  rintro e w2 ⟨rfl, hb2⟩
  have HB2 := hide hb2
  have HA2 := hide (ask_any 2 (.inr rfl) w2)
  clear hb2
  go_wp2_with fail
  refine (unhide HA2).mono ?_
  rintro e w3 ⟨rfl, hb3⟩
  have HB3 := hide hb3
  clear hb3
  go_wp2_with fail
  obtain ⟨hL1, hb1⟩ := unhide HL1
  have hb2 := unhide HB2
  have hb3 := unhide HB3
  have hb13 : Below w1.heap.size w1 w3 := hb2.trans (hb3.mono hb2.size)
  have hL3 := hL1.below hb13
  have hal : Below w3.heap.size w3 (w3.alloc (.cells L34 38)) := below_box L34 38
  have hx3 : (w3.alloc (.cells L34 38)).heap[w3.heap.size]? = some (.cells L34 38) := heap_alloc_new w3 _
  have hs3 : (w3.alloc (.cells L34 38)).heap.size = w3.heap.size + 1 := by simp
  obtain ⟨y3, hy3⟩ : ∃ y, w3.alloc (.cells L34 38) = y := ⟨_, rfl⟩
  rw [hy3] at hal hx3 hs3
  have hb03 : Below w.heap.size w w3 := hb1.trans (hb13.mono hb1.size)
  have hb0y : Below w.heap.size w y3 := hb03.trans (hal.mono hb03.size)
  have hLy := hL3.below hal
  have hnb : ¬ Owned (liveSt g0 g1 (.slice none 0 0) []) w3.heap.size := fun ⟨q, hq, hc⟩ => hL3.new (Nat.le_refl _) q hq hc
  have HSD := hide (send_any hLy hb0y.size (v := .slice (some ⟨w3.heap.size, 0, none⟩) 2 2) (vs := [askV 1, askV 2]) (fun x hx => ask_two ((hx.block _ (by omega) hnb).trans hx3)) (fun p hp => by
    simp only [List.mem_cons, List.not_mem_nil, or_false] at hp
    rcases hp with rfl | rfl <;> exact ask_size _) (fun p hp => by
    simp only [List.mem_cons, List.not_mem_nil, or_false] at hp
    rcases hp with rfl | rfl <;> simp [askM]))
  have HBY := hide (And.intro hb0y hLy)
  clear hL1 hb1 hb2 hb3 hb13 hL3 hal hx3 hs3 hb03 hb0y hLy hnb HA1 HA2 HL1 HB2 HB3
  rw [hy3]
  refine (unhide HSD).mono ?_
  rintro e w4 ⟨st1, c, rfl, hsnd, hL4, hU4, _⟩
  obtain ⟨sta, ca, cb, hs1, hs2, rfl⟩ := SndL.two hsnd
  obtain ⟨va, rfl, rfl⟩ := live_snd rfl rfl may_ask1 (by simp) hs1
  obtain ⟨vb, rfl, rfl⟩ := live_snd rfl rfl may_ask2 (by simp) hs2
  have hb4 : Below w.heap.size w w4 := (unhide HBY).1.trans (hU4.below (unhide HBY).1.size (fun k ⟨q, hq, hk⟩ => (((unhide HBY).2.pipe q hq).lt hk).1))
  have HLN := hide (len_any hL4 (by simp [liveSt]))
  have htot : total (liveSt g0 g1 vb (([] ++ [askM 1]) ++ [askM 2])) = 2 := rfl
  rw [htot] at HLN
  have HL4 := hide (And.intro hL4 hb4)
  clear hsnd hU4 hs1 hs2 hL4 hb4 htot HBY HSD
  simp only [Nat.reduceAdd] at *
  go_wp2_with fail
  refine (unhide HLN).mono ?_
  rintro e w5 ⟨rfl, hb5⟩
  obtain ⟨hL4, hb4⟩ := unhide HL4
  have hL5 := hL4.below hb5
  have hb05 : Below w.heap.size w w5 := hb4.trans (hb5.mono hb4.size)
  have HPS := hide (pass_any hL5 (a := 0) (b := 1) (by decide) (by decide) (fun q hq m hm => by
    simp only [liveSt, List.mem_cons, List.not_mem_nil, or_false] at hq
    rcases hq with rfl | rfl
    · simp only [List.nil_append, List.cons_append, List.mem_cons, List.not_mem_nil, or_false] at hm
      rcases hm with rfl | rfl <;> exact ask_size _
    · cases hm))
  have HB5 := hide (And.intro hb05 hL5)
  unfold keyV at HPS
  clear hL4 hb4 hb5 hL5 hb05 HL4 HLN
  go_wp2_with fail
  refine (unhide HPS).mono ?_
  intro e w6 hpass
  rcases hpass with ⟨hno, _, _⟩ | ⟨i, q, m, r, v', cs', hq, hi, hl, rfl, hO, hL6, hU6, -⟩
  · exact absurd (hno _ (live_lk g0 g1 vb _)) (by simp)
  rw [live_lk] at hq
  obtain rfl := Option.some.inj hq
  obtain ⟨rfl, rfl⟩ : askM 1 = m ∧ [askM 2] = r := by simpa using hl
  rw [live_set v' [askM 2] hi] at hL6
  obtain ⟨hb05, hL5⟩ := unhide HB5
  have hb06 : Below w.heap.size w w6 := hb05.trans (hU6.below hb05.size (fun k hk => ((hL5.pipe _ (List.mem_of_getElem? hi)).lt hk).1))
  obtain ⟨hlen, hone⟩ := hO.size
  have hx6 : (w6.alloc (.cells z17 38)).heap[w6.heap.size]? = some (.cells z17 38) := heap_alloc_new w6 _
  have ha6 : Below w6.heap.size w6 (w6.alloc (.cells z17 38)) := below_box z17 38
  obtain ⟨y6, hy6⟩ : ∃ y, w6.alloc (.cells z17 38) = y := ⟨_, rfl⟩
  rw [hy6] at hx6 ha6
  have hx7 : (y6.setRow w6.heap.size cs').heap[w6.heap.size]? = some (.cells cs' 38) := setRow_heap _ _ _ _ _ _ hx6
  have ha7 : Below w6.heap.size w6 (y6.setRow w6.heap.size cs') := below_setRow ha6 (Nat.le_refl _)
  obtain ⟨y7, hy7⟩ : ∃ y, y6.setRow w6.heap.size cs' = y := ⟨_, rfl⟩
  rw [hy7] at hx7 ha7
  have hlt : w6.heap.size < y7.heap.size := (Array.getElem?_eq_some_iff.1 hx7).1
  have HX6 := hide hx6
  have HX7 : Hid (∀ x, Below y7.heap.size y7 x → x.heap[w6.heap.size]? = some (.cells cs' 38)) := fun x hb => (hb.block _ hlt).trans hx7
  have HSAME : Hid (∀ x, Below y7.heap.size y7 x → Calls Try.prog 8 #[.agg cs', .agg (askC 1)] x fun e z => e = .returned (.bool true) ∧ Below x.heap.size x z) := fun x hb => by
    have := refSameMsg_any cs' (askC 1) (askM 1) (askM 1) x (((hO.below ha7).below hb).sees (ask_size 1)) (ask_sees x 1) (ask_size 1).ok (ask_size 1).ok
    rwa [decide_eq_true rfl] at this
  have HASK : Hid (∀ x : World, Calls Try.prog 10 #[.int .i64 1] x fun e z => e = .returned (.agg (askC 1)) ∧ Below x.heap.size x z) := fun x => ask_any 1 (.inl rfl) x
  have HMANY : Hid (∀ x, Below y7.heap.size y7 x → Calls Try.prog 12 #[P0 P, keyV 0 1] x fun e z => e = .returned (.int .i64 1) ∧ Below x.heap.size x z) := fun x hb => many_any ((hL6.below ha7).below hb) (live_lk g0 g1 v' [askM 2]) (by decide) (by decide)
  have HWHOLE : Hid (∀ x, Below y7.heap.size y7 x → Calls Try.prog 13 #[P0 P, keyV 0 0] x fun e z => e = .returned (.bool false) ∧ Below x.heap.size x z) := fun x hb => whole_none ((hL6.below ha7).below hb) (live_lk0 g0 g1 v' [askM 2]) (by decide) (by decide)
  have HB7 : Hid (Below w.heap.size w y7) := hb06.trans (ha7.mono hb06.size)
  have HLEN := hide (And.intro hlen hone)
  unfold keyV at HMANY HWHOLE
  clear hi hl hO hL6 hU6 hb05 hL5 hb06 hlen hone hx6 ha6 hx7 ha7 hlt HB5 HPS
  go_wp2_with (first | rw [hy6] | refine wpList_store_row rfl 38 _ _ rfl w6.heap.size _ _ rfl rfl 38 (unhide HX6) (by rw [(unhide HLEN).1]; exact info38s) (by rw [(unhide HLEN).1]; rfl) (unhide HLEN).2 ?_ | rw [hy7])
  refine wp_region_held_drew (S := fun x => Below y7.heap.size y7 x) (by kernel_rfl) (Below.refl _ _).drew (fun hHeld => ?_)
  refine wpAnyH_take (i := 0) (v := ?v1x0) rfl (by kernel_rfl) (by kernel_rfl) (by kernel_rfl) (fun _ _ _ h => h) (Or.inl ⟨by rfl, ?hy1x0⟩) (by assumption) ?rest1x0
  case hy1x0 => intro w hSw; go_simp <;> with_reducible rfl
  simp only [Act.put, List.getElem_toArray, List.getElem_cons_zero, List.setIfInBounds_toArray, List.set_cons_zero, List.set_cons_succ]
  refine wpAnyH_take (i := 1) (v := ?v2x1) rfl (by kernel_rfl) (by kernel_rfl) (by kernel_rfl) (fun _ _ _ h => h) (Or.inl ⟨by rfl, ?hy2x1⟩) (by assumption) ?rest2x1
  case hy2x1 => intro w hSw; go_simp <;> with_reducible rfl
  simp only [Act.put, List.getElem_toArray, List.getElem_cons_zero, List.getElem_cons_succ, List.setIfInBounds_toArray, List.set_cons_zero, List.set_cons_succ]
  refine wpAnyH_take (i := 2) (v := ?v3x2) rfl (by kernel_rfl) (by kernel_rfl) (by kernel_rfl) (fun _ _ _ h => h) (Or.inl ⟨by rfl, ?hy3x2⟩) (by assumption) ?rest3x2
  case hy3x2 => intro w hSw; go_simp <;> with_reducible rfl
  simp only [Act.put, List.getElem_toArray, List.getElem_cons_zero, List.getElem_cons_succ, List.setIfInBounds_toArray, List.set_cons_zero, List.set_cons_succ]
  refine wpAnyH_take (i := 3) (v := (.agg cs')) rfl (by kernel_rfl) (by kernel_rfl) (by kernel_rfl) (fun _ _ _ h => h) (Or.inl ⟨by rfl, ?hy4x3⟩) (by assumption) ?rest4x3
  case hy4x3 => intro w hSw; exact run_loadE rfl rfl (unhide HX7 _ hSw) Try.underlying38 (by rw [(unhide HLEN).1]; exact info38s) rfl
  simp only [Act.put, List.getElem_toArray, List.getElem_cons_zero, List.getElem_cons_succ, List.setIfInBounds_toArray, List.set_cons_zero, List.set_cons_succ]
  refine wpAnyH_ready (rs := [4]) (by kernel_rfl) (by simp) ?_
  refine AllReadyH.cons rfl (fun K hK => ?_) AllReadyH.nil
  go_simp
  refine (unhide HASK _).mono ?_
  rintro e x1 ⟨rfl, hc1⟩
  refine hK _ _ (hHeld.trans (hc1.mono hHeld.size)) ?_
  clear hK hHeld
  clear hc1
  intro hHeld
  refine wpAnyH_ready (rs := [5]) (by kernel_rfl) (by simp) ?_
  refine AllReadyH.cons rfl (fun K hK => ?_) AllReadyH.nil
  go_simp
  refine (unhide HSAME _ hHeld).mono ?_
  rintro e x2 ⟨rfl, hc2⟩
  refine hK _ _ (hHeld.trans (hc2.mono hHeld.size)) ?_
  clear hK hHeld
  clear hc2
  intro hHeld
  refine wpAnyH_take (i := 6) (v := ?v5x6) rfl (by kernel_rfl) (by kernel_rfl) (by kernel_rfl) (fun _ _ _ h => h) (Or.inl ⟨by rfl, ?hy5x6⟩) (by assumption) ?rest5x6
  case hy5x6 => intro w hSw; go_simp <;> with_reducible rfl
  simp only [Act.put, List.getElem_toArray, List.getElem_cons_zero, List.getElem_cons_succ, List.setIfInBounds_toArray, List.set_cons_zero, List.set_cons_succ]
  refine wpAnyH_take (i := 7) (v := ?v6x7) rfl (by kernel_rfl) (by kernel_rfl) (by kernel_rfl) (fun _ _ _ h => h) (Or.inl ⟨by rfl, ?hy6x7⟩) (by assumption) ?rest6x7
  case hy6x7 => intro w hSw; go_simp <;> with_reducible rfl
  simp only [Act.put, List.getElem_toArray, List.getElem_cons_zero, List.getElem_cons_succ, List.setIfInBounds_toArray, List.set_cons_zero, List.set_cons_succ]
  refine wpAnyH_take (i := 8) (v := ?v7x8) rfl (by kernel_rfl) (by kernel_rfl) (by kernel_rfl) (fun _ _ _ h => h) (Or.inl ⟨by rfl, ?hy7x8⟩) (by assumption) ?rest7x8
  case hy7x8 => intro w hSw; go_simp <;> with_reducible rfl
  simp only [Act.put, List.getElem_toArray, List.getElem_cons_zero, List.getElem_cons_succ, List.setIfInBounds_toArray, List.set_cons_zero, List.set_cons_succ]
  refine wpAnyH_take (i := 9) (v := ?v8x9) rfl (by kernel_rfl) (by kernel_rfl) (by kernel_rfl) (fun _ _ _ h => h) (Or.inl ⟨by rfl, ?hy8x9⟩) (by assumption) ?rest8x9
  case hy8x9 => intro w hSw; go_simp <;> with_reducible rfl
  simp only [Act.put, List.getElem_toArray, List.getElem_cons_zero, List.getElem_cons_succ, List.setIfInBounds_toArray, List.set_cons_zero, List.set_cons_succ]
  refine wpAnyH_ready (rs := [10]) (by kernel_rfl) (by simp) ?_
  refine AllReadyH.cons rfl (fun K hK => ?_) AllReadyH.nil
  go_simp
  refine (unhide HMANY _ hHeld).mono ?_
  rintro e x3 ⟨rfl, hc3⟩
  refine hK _ _ (hHeld.trans (hc3.mono hHeld.size)) ?_
  clear hK hHeld
  clear hc3
  intro hHeld
  refine wpAnyH_take (i := 11) (v := ?v9x11) rfl (by kernel_rfl) (by kernel_rfl) (by kernel_rfl) (fun _ _ _ h => h) (Or.inl ⟨by rfl, ?hy9x11⟩) (by assumption) ?rest9x11
  case hy9x11 => intro w hSw; go_simp <;> with_reducible rfl
  simp only [Act.put, List.getElem_toArray, List.getElem_cons_zero, List.getElem_cons_succ, List.setIfInBounds_toArray, List.set_cons_zero, List.set_cons_succ]
  refine wpAnyH_take (i := 12) (v := ?v10x12) rfl (by kernel_rfl) (by kernel_rfl) (by kernel_rfl) (fun _ _ _ h => h) (Or.inl ⟨by rfl, ?hy10x12⟩) (by assumption) ?rest10x12
  case hy10x12 => intro w hSw; go_simp <;> with_reducible rfl
  simp only [Act.put, List.getElem_toArray, List.getElem_cons_zero, List.getElem_cons_succ, List.setIfInBounds_toArray, List.set_cons_zero, List.set_cons_succ]
  refine wpAnyH_take (i := 13) (v := ?v11x13) rfl (by kernel_rfl) (by kernel_rfl) (by kernel_rfl) (fun _ _ _ h => h) (Or.inl ⟨by rfl, ?hy11x13⟩) (by assumption) ?rest11x13
  case hy11x13 => intro w hSw; go_simp <;> with_reducible rfl
  simp only [Act.put, List.getElem_toArray, List.getElem_cons_zero, List.getElem_cons_succ, List.setIfInBounds_toArray, List.set_cons_zero, List.set_cons_succ]
  refine wpAnyH_take (i := 14) (v := ?v12x14) rfl (by kernel_rfl) (by kernel_rfl) (by kernel_rfl) (fun _ _ _ h => h) (Or.inl ⟨by rfl, ?hy12x14⟩) (by assumption) ?rest12x14
  case hy12x14 => intro w hSw; go_simp <;> with_reducible rfl
  simp only [Act.put, List.getElem_toArray, List.getElem_cons_zero, List.getElem_cons_succ, List.setIfInBounds_toArray, List.set_cons_zero, List.set_cons_succ]
  refine wpAnyH_take (i := 15) (v := ?v13x15) rfl (by kernel_rfl) (by kernel_rfl) (by kernel_rfl) (fun _ _ _ h => h) (Or.inl ⟨by rfl, ?hy13x15⟩) (by assumption) ?rest13x15
  case hy13x15 => intro w hSw; go_simp <;> with_reducible rfl
  simp only [Act.put, List.getElem_toArray, List.getElem_cons_zero, List.getElem_cons_succ, List.setIfInBounds_toArray, List.set_cons_zero, List.set_cons_succ]
  refine wpAnyH_ready (rs := [16]) (by kernel_rfl) (by simp) ?_
  refine AllReadyH.cons rfl (fun K hK => ?_) AllReadyH.nil
  go_simp
  refine (unhide HWHOLE _ hHeld).mono ?_
  rintro e x4 ⟨rfl, hc4⟩
  refine hK _ _ (hHeld.trans (hc4.mono hHeld.size)) ?_
  clear hK hHeld
  clear hc4
  intro hHeld
  have HB8 : Hid (Below w.heap.size w x4) := (unhide HB7).trans (hHeld.mono (unhide HB7).size)
  refine wpAnyH_take (i := 17) (v := ?v14x17) rfl (by kernel_rfl) (by kernel_rfl) (by kernel_rfl) (fun _ _ _ h => h) (Or.inl ⟨by rfl, ?hy14x17⟩) (by assumption) ?rest14x17
  case hy14x17 => intro w hSw; go_simp <;> with_reducible rfl
  simp only [Act.put, List.getElem_toArray, List.getElem_cons_zero, List.getElem_cons_succ, List.setIfInBounds_toArray, List.set_cons_zero, List.set_cons_succ]
  refine wpAnyH_take (i := 18) (v := ?v15x18) rfl (by kernel_rfl) (by kernel_rfl) (by kernel_rfl) (fun _ _ _ h => h) (Or.inl ⟨by rfl, ?hy15x18⟩) (by assumption) ?rest15x18
  case hy15x18 => intro w hSw; go_simp <;> with_reducible rfl
  simp only [Act.put, List.getElem_toArray, List.getElem_cons_zero, List.getElem_cons_succ, List.setIfInBounds_toArray, List.set_cons_zero, List.set_cons_succ]
  refine wpAnyH_take (i := 19) (v := ?v16x19) rfl (by kernel_rfl) (by kernel_rfl) (by kernel_rfl) (fun _ _ _ h => h) (Or.inl ⟨by rfl, ?hy16x19⟩) (by assumption) ?rest16x19
  case hy16x19 => intro w hSw; go_simp <;> with_reducible rfl
  simp only [Act.put, List.getElem_toArray, List.getElem_cons_zero, List.getElem_cons_succ, List.setIfInBounds_toArray, List.set_cons_zero]
  refine wpAnyH_done (by kernel_rfl) ?_ _
  go_wp2
  go_ret
  exact ⟨rfl, unhide HB8⟩
end Go.Proofs.Ytoddemcmmijoaaa
