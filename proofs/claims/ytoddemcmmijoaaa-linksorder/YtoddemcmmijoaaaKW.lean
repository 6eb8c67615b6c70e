/- Several texts as one. -/
import Derived.Test.YtoddemcmmijoaaaKK
import Derived.Laws.OwnMore
import Derived.RangeFuncBox
import Derived.Test.YtoddemcmmijoaaaKM

/- Record: entries that may be. -/
namespace Go.Proofs.Ytoddemcmmijoaaa
open Go.RowKit
set_option maxRecDepth 100000

theorem okTs_nil : OkTs [] := fun t h => by cases h
set_option maxHeartbeats 3200000 in
theorem entryMayBe_any (cs : Array Value) (t : EntD) (w : World) (ht : SeesE w cs t) (ot : OkTs t.txns) :
    Calls Try.prog 49 #[.agg cs] w fun e w' => e = .returned (.bool (mayE t)) ∧ Below w.heap.size w w' := by
  obtain ⟨k, f, n, txns⟩ := t
  obtain ⟨_, rfl, ht⟩ := ht
  simp only at ht ot ⊢
  have HT : Hid (∀ w', Below w.heap.size w w' → SeesTs w' _ txns) := fun w' h => ht.below h
  obtain ⟨ta, tc, _, _, rfl, htc, htm, _⟩ := ht
  have HOT := hide ot
  clear ot
  have HB : Hid (Below w.heap.size w (w.alloc (.cells #[.int .i64 k, .int .i64 f, .int .i64 n, .slice ta txns.length tc] 33))) := (Below.refl _ _).alloc (Nat.le_refl _) _
  by_cases hk0 : k = 0
  · subst hk0
    have hm : mayE ⟨0, f, n, txns⟩ = decide (EntD.mk 0 f n txns = dE) := by unfold mayE; rw [if_pos rfl]
    rw [hm]
    have HQ := hide (sameEntry_any _ _ ⟨0, f, n, txns⟩ dE (w.alloc (.cells #[.int .i64 0, .int .i64 f, .int .i64 n, .slice ta txns.length tc] 33)) ⟨_, rfl, unhide HT _ (unhide HB)⟩ (SeesE.zero _) (unhide HOT) okTs_nil)
    simp only at HQ
    go_enter Try.func49, Try.ntmps49
    go_wp2_with fail
    refine (unhide HQ).mono ?_
    rintro e w2 ⟨rfl, hb2⟩
    have HB2 : Hid (Below w.heap.size w w2) := (unhide HB).trans (hb2.mono (unhide HB).size)
    clear hb2
    go_wp2_with fail
    go_ret
    exact ⟨rfl, unhide HB2⟩
  by_cases hk1 : k = 1
  · subst hk1
    have hm : mayE ⟨1, f, n, txns⟩ = (isRep f && isCnt n && decide (1 ≤ txns.length) && decide (txns.length ≤ 16) && txns.all mayT) := by unfold mayE; rw [if_neg (by simp), if_pos rfl]
    rw [hm]
    have HQ := hide (all_any _ txns (w.alloc (.cells #[.int .i64 1, .int .i64 f, .int .i64 n, .slice ta txns.length tc] 33)) (unhide HT _ (unhide HB)))
    clear hk0 hm
    cases h1 : isRep f with
    | false =>
      go_enter Try.func49, Try.ntmps49
      go_wp2_with (first | (go_at_call 37; refine (isReplica_any _ _).mono ?_; rintro e w' ⟨rfl, rfl⟩) | fail)
      go_ret
      exact ⟨retBool (by simp), unhide HB⟩
    | true =>
    cases h2 : isCnt n with
    | false =>
      go_enter Try.func49, Try.ntmps49
      go_wp2_with (first | (go_at_call 37; refine (isReplica_any _ _).mono ?_; rintro e w' ⟨rfl, rfl⟩) | (go_at_call 46; refine (isCount_any _ _).mono ?_; rintro e w' ⟨rfl, rfl⟩) | fail)
      go_ret
      exact ⟨retBool (by simp), unhide HB⟩
    | true =>
    by_cases h3 : txns.length < 1
    · have hd : decide (1 ≤ txns.length) = false := decide_eq_false (by omega)
      rw [hd]
      go_enter Try.func49, Try.ntmps49
      go_wp2_with (first | (go_at_call 37; refine (isReplica_any _ _).mono ?_; rintro e w' ⟨rfl, rfl⟩) | (go_at_call 46; refine (isCount_any _ _).mono ?_; rintro e w' ⟨rfl, rfl⟩) | fail)
      go_ret
      exact ⟨retBool (by simp), unhide HB⟩
    by_cases h4 : 16 < txns.length
    · have hd : decide (txns.length ≤ 16) = false := decide_eq_false (by omega)
      rw [hd]
      go_enter Try.func49, Try.ntmps49
      go_wp2_with (first | (go_at_call 37; refine (isReplica_any _ _).mono ?_; rintro e w' ⟨rfl, rfl⟩) | (go_at_call 46; refine (isCount_any _ _).mono ?_; rintro e w' ⟨rfl, rfl⟩) | fail)
      go_ret
      exact ⟨retBool (by simp), unhide HB⟩
    · have hd : decide (1 ≤ txns.length) = true := decide_eq_true (by omega)
      have hd2 : decide (txns.length ≤ 16) = true := decide_eq_true (by omega)
      rw [hd, hd2]
      clear hd hd2
      go_enter Try.func49, Try.ntmps49
      go_wp2_with (first | (go_at_call 37; refine (isReplica_any _ _).mono ?_; rintro e w' ⟨rfl, rfl⟩) | (go_at_call 46; refine (isCount_any _ _).mono ?_; rintro e w' ⟨rfl, rfl⟩) | fail)
      refine (unhide HQ).mono ?_
      rintro e w2 ⟨rfl, hb2⟩
      have HB2 : Hid (Below w.heap.size w w2) := (unhide HB).trans (hb2.mono (unhide HB).size)
      clear hb2
      go_wp2_with fail
      go_ret
      exact ⟨retBool (by simp), unhide HB2⟩
  · have hm : mayE ⟨k, f, n, txns⟩ = false := by unfold mayE; rw [if_neg hk0, if_neg hk1]
    rw [hm]
    go_enter Try.func49, Try.ntmps49
    go_wp2_with fail
    go_ret
    exact ⟨rfl, unhide HB⟩

end Go.Proofs.Ytoddemcmmijoaaa

/- Record: the writer. -/
namespace Go.Proofs.Ytoddemcmmijoaaa
open Go.RowKit
set_option maxRecDepth 100000

/-- append(s, x...), as a run. -/
theorem run_append_sees {w : World} (base : Nat) (v : Value) (xs : List Int) (hown : w.ownsRow base 5 1 v xs.length (ints .u8 xs)) (sv : Value) (zs : List Int) (hsee : Sees w .u8 sv zs) (hn : xs.length + zs.length ≤ 1099511627776) (hbase : base ≤ w.heap.size) (ty : TypeId) :
    ∃ v' w', (Builtin.append_ #[34, 34] ty #[v, sv]).run Try.prog w = .ok v' w' ∧ w'.ownsRow base 5 1 v' (xs ++ zs).length (ints .u8 (xs ++ zs)) ∧ w.grownBy w' v.ownBlock := by
  obtain ⟨i0, hi, hz0, hz1, hz2⟩ := info_parts Try.info5
  obtain ⟨ao, cap, rfl, hl, hnil, hc⟩ := hsee
  cases ao with
  | none =>
    obtain rfl := hnil rfl
    obtain rfl : zs = [] := List.length_eq_zero_iff.1 (by omega)
    exact ⟨v, w, run_append_owned_none (P := Try.prog) (w := w) base 34 ty 5 i0 1 Try.underlying34 hi v _ _ hown, by simpa using hown, grownBy_refl _ _⟩
  | some ad =>
    obtain ⟨v', w', h1, h2, h3, _⟩ := run_append_own (P := Try.prog) w base 34 ty 5 i0 (.int .u8 0) 1 1 Try.underlying34 hi hz0 hz1 hz2 rfl (by decide) v _ _ hown ad zs.length cap (ints .u8 zs) (by rw [ints_length]; omega)
      (fun j u hu => by obtain ⟨hj, rfl⟩ := ints_get hu; exact hc ad rfl j hj) (ints_cell _ _) (by unfold maxLen; omega) (by omega) hbase
    exact ⟨v', w', h1, by rw [ints_append, List.length_append]; exact h2, h3⟩

/-- Only the writer and its own rows of bytes are written. -/
structure Wrote (B lo : Nat) (w w' : World) : Prop where
  os : w'.os = w.os
  tape : w'.tape = w.tape
  output : w'.output = w.output
  size : w.heap.size ≤ w'.heap.size
  block : ∀ k, k < w.heap.size → k ≠ B → (k < lo ∨ ∀ cur, w.heap[k]? ≠ some (.cells cur 5 (0, 0))) → w'.heap[k]? = w.heap[k]?
theorem Wrote.refl (B lo : Nat) (w : World) : Wrote B lo w w := ⟨rfl, rfl, rfl, Nat.le_refl _, fun _ _ _ _ => rfl⟩
theorem Wrote.trans {B lo : Nat} {a b c : World} (h : Wrote B lo a b) (k : Wrote B lo b c) : Wrote B lo a c :=
  ⟨k.os.trans h.os, k.tape.trans h.tape, k.output.trans h.output, Nat.le_trans h.size k.size, fun i hi hB hc => by
    have e := h.block i hi hB hc
    exact (k.block i (Nat.lt_of_lt_of_le hi h.size) hB (hc.imp id (fun hc cur => by rw [e]; exact hc cur))).trans e⟩
theorem Wrote.of {B lo : Nat} {w w' : World} (h : Below w.heap.size w w') : Wrote B lo w w' := ⟨h.os, h.tape, h.output, h.size, fun k hk _ _ => h.block k hk⟩
theorem Wrote.grown {B lo : Nat} {w w' : World} {v : Value} {n : Nat} {xs : List Value} (ho : w.ownsRow lo 5 1 v n xs) (h : w.grownBy w' v.ownBlock) : Wrote B lo w w' :=
  ⟨h.os, h.tape, h.output, h.size, fun k hk _ hc => h.block k hk (by
    rcases ho.2 with ⟨rfl, _⟩ | ⟨g, cap, cur, rfl, hg, hh, _⟩
    · simp [Value.ownBlock]
    · simp only [Value.ownBlock, ne_eq, Option.some.injEq]
      rintro rfl
      rcases hc with hc | hc
      · omega
      · exact hc _ hh)⟩
theorem Wrote.set {B lo : Nat} {a w : World} (h : Wrote B lo a w) (o : Nat) (u : Value) : Wrote B lo a (w.setCell ⟨B, o, none⟩ u) :=
  h.trans ⟨rfl, rfl, rfl, by simp [World.setCell], fun k _ hB _ => Below.heap_setCell _ _ _ _ (fun e => hB e)⟩
theorem Wrote.drew {B lo : Nat} {a w : World} (h : Wrote B lo a w) : Wrote B lo a w.drew := ⟨h.os, h.tape, h.output, h.size, h.block⟩
/-- What lies below the writer is as it was. -/
theorem Wrote.below {B lo N : Nat} {w w' : World} (h : Wrote B lo w w') (hN : N ≤ B) (hl : N ≤ lo) (hs : N ≤ w.heap.size) : Below N w w' :=
  ⟨h.os, h.tape, h.output, h.size, fun k hk => h.block k (by omega) (by omega) (.inl (by omega))⟩
/-- A block of another type is as it was. -/
theorem Wrote.box {B lo b : Nat} {w w' : World} (h : Wrote B lo w w') {cs : Array Value} {T : TypeId} (hb : w.heap[b]? = some (.cells cs T (0, 0))) (hT : T ≠ 5) (hB : b ≠ B) : w'.heap[b]? = some (.cells cs T (0, 0)) :=
  (h.block b (Array.getElem?_eq_some_iff.1 hb).1 hB (.inr fun cur e => by rw [hb] at e; cases e; exact hT rfl)).trans hb

/-- The writer at block B has the bytes xs, in rows of its own from lo on. -/
structure Wr (w : World) (B lo : Nat) (xs : List Int) : Prop where
  own : ∃ v, w.cell? ⟨B, 0, none⟩ = some v ∧ w.ownsRow lo 5 1 v xs.length (ints .u8 xs)
  fr : ∀ o, w.frozen? ⟨B, o, none⟩ = false
  lt : B < lo
  le : lo ≤ w.heap.size

theorem Wr.below {w w' : World} {B lo : Nat} {xs : List Int} (h : Wr w B lo xs) (hb : Below w.heap.size w w') : Wr w' B lo xs := by
  obtain ⟨v, h1, h2⟩ := h.own
  have hl := h.lt; have hle := h.le
  exact ⟨⟨v, (hb.cell (p := ⟨B, 0, none⟩) (by show B < _; omega)).trans h1, own_below h2 hb⟩, fun o => (World.frozen?_of_block (w := w) (hb.block B (by omega))).trans (h.fr o), hl, Nat.le_trans hle hb.size⟩

/-- The writer's own append of what was made anew. -/
theorem Wr.step {w w1 : World} {B lo : Nat} {xs zs : List Int} {v x : Value} {n : Nat} (h : Wr w B lo xs) (hv : w.cell? ⟨B, 0, none⟩ = some v) (hb : Below w.heap.size w w1) (hx : w1.ownsRow w.heap.size 5 1 x n (ints .u8 zs)) (hn : xs.length + zs.length ≤ 1099511627776) (ty : TypeId) :
    ∃ av nv cv w2, (Builtin.append_ #[34, 34] ty #[v, x]).run Try.prog w1 = .ok (.slice av nv cv) w2 ∧ w2.frozen? ⟨B, 0, none⟩ = false ∧ (∃ u, w2.cell? ⟨B, 0, none⟩ = some u) ∧ Wr (w2.setCell ⟨B, 0, none⟩ (.slice av nv cv)) B lo (xs ++ zs) ∧ Wrote B lo w (w2.setCell ⟨B, 0, none⟩ (.slice av nv cv)) := by
  obtain ⟨v0, h1, h2⟩ := h.own
  rw [hv] at h1
  cases h1
  have hl := h.lt; have hle := h.le; have hs := hb.size
  have hw1 := h.below hb
  obtain ⟨_, hsee⟩ := sees_of_own hx
  have ho1 := own_below h2 hb
  obtain ⟨v', w2, hr, ho, hg⟩ := run_append_sees lo v xs ho1 x zs hsee hn (by omega) ty
  have hbk : w2.heap[B]? = w1.heap[B]? := hg.block B (by omega) (by
    intro e
    have := (ho1.lt B e.symm).1
    omega)
  have hc : w2.cell? ⟨B, 0, none⟩ = some v := (World.cell?_of_block (w := w1) hbk).trans ((hb.cell (p := ⟨B, 0, none⟩) (by show B < _; omega)).trans hv)
  have hf : ∀ o, w2.frozen? ⟨B, o, none⟩ = false := fun o => (World.frozen?_of_block (w := w1) hbk).trans (hw1.fr o)
  obtain ⟨av, cv, rfl⟩ := own_shape ho
  refine ⟨av, _, cv, w2, hr, hf 0, ⟨v, hc⟩, ⟨⟨_, World.cell?_setCell_same w2 _ _ hc, ?_⟩, fun o => by rw [World.frozen?_setCell]; exact hf o, hl, ?_⟩, (((Wrote.of hb).trans (Wrote.grown ho1 hg)).set 0 _)⟩
  · refine ho.kept (grownBy_setCell' w2 B _) ?_
    rcases ho.2 with ⟨e0, _⟩ | ⟨g, cap, cur, e0, hg', _⟩
    · exact .inl (by rw [e0]; rfl)
    · refine .inr fun e => ?_
      rw [e0] at e
      simp only [Value.ownBlock, Option.some.injEq] at e
      omega
  · have := hg.size
    simp [World.setCell]
    omega
end Go.Proofs.Ytoddemcmmijoaaa
