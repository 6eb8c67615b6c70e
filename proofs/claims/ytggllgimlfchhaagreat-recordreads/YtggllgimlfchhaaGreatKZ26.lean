/- Several texts as one. -/
import Derived.Test.YtggllgimlfchhaaGreatYC

/- Record: transactions, written. -/
namespace Go.Proofs.YtggllgimlfchhaaGreat
open Go.RowKit
set_option maxRecDepth 100000

/-- A transaction's form. -/
def txnB (t : TxnD) : List Int :=
  putL [t.ses, t.req] ++ (putL [(t.code.length : Int)] ++ t.code) ++ putL [(t.args.length : Int)] ++ putL t.args ++ putL ((t.reads.length : Int) :: keyN t.reads) ++ putL ((t.writes.length : Int) :: keyN t.writes)
/-- What memory holds. -/
structure FitT (t : TxnD) : Prop where
  ses : -9223372036854775808 ≤ t.ses ∧ t.ses ≤ 9223372036854775807
  req : -9223372036854775808 ≤ t.req ∧ t.req ≤ 9223372036854775807
  code : Byt t.code
  args : ∀ x ∈ t.args, -9223372036854775808 ≤ x ∧ x ≤ 9223372036854775807
  reads : OkK t.reads
  writes : OkK t.writes
theorem mayK_le {l : List (Int × Int)} (h : mayK l = true) : l.length ≤ 16 := by
  unfold mayK at h
  simp at h
  exact h.1
theorem mayT_le {t : TxnD} (h : mayT t = true) : t.code.length ≤ 512 ∧ t.args.length ≤ 8 ∧ t.reads.length ≤ 16 ∧ t.writes.length ≤ 16 := by
  unfold mayT at h
  simp only [Bool.and_eq_true, decide_eq_true_eq] at h
  exact ⟨h.1.1.1.2, h.1.1.2, mayK_le h.1.2, mayK_le h.2⟩
theorem putL_le (l : List Int) : (putL l).length ≤ 9 * l.length := by rw [putL_length]; exact sizeL_le l

set_option maxHeartbeats 3200000 in
theorem txn_any {w : World} {B lo N : Nat} {xs : List Int} (h : Wr w B lo xs) (cs : Array Value) (t : TxnD) (hN : N ≤ B) (hT : ∀ w', Below N w w' → SeesT w' cs t) (hf : FitT t) (hm : mayT t = true) (hn : xs.length ≤ 68719476736) :
    Calls Tryz.prog 74 #[.agg #[.pointer (some ⟨B, 0, none⟩)], .agg cs] w fun e w' => e = .returned (.tuple #[]) ∧ Wr w' B lo (xs ++ txnB t) ∧ Wrote B lo w w' := by
  obtain ⟨m1, m2, m3, m4⟩ := mayT_le hm
  have hlt := h.lt; have hle := h.le
  obtain ⟨cv, av, rv, wv, rfl, k1, k2, k3, k4⟩ := hT w (Below.refl _ _)
  have HC : Hid (∀ w', Below N w w' → Sees w' .u8 cv t.code) := fun w' hb => by
    obtain ⟨_, _, _, _, e, h1, _⟩ := hT w' hb
    simp only [Array.mk.injEq, List.cons.injEq, true_and, and_true] at e
    obtain ⟨rfl, _⟩ := e
    exact h1
  have HA : Hid (∀ w', Below N w w' → Sees w' .i64 av t.args) := fun w' hb => by
    obtain ⟨_, _, _, _, e, _, h1, _⟩ := hT w' hb
    simp only [Array.mk.injEq, List.cons.injEq, true_and, and_true] at e
    obtain ⟨_, rfl, _⟩ := e
    exact h1
  have HR : Hid (∀ w', Below N w w' → SeesK w' rv t.reads) := fun w' hb => by
    obtain ⟨_, _, _, _, e, _, _, h1, _⟩ := hT w' hb
    simp only [Array.mk.injEq, List.cons.injEq, true_and, and_true] at e
    obtain ⟨_, _, rfl, _⟩ := e
    exact h1
  have HW : Hid (∀ w', Below N w w' → SeesK w' wv t.writes) := fun w' hb => by
    obtain ⟨_, _, _, _, e, _, _, _, h1⟩ := hT w' hb
    simp only [Array.mk.injEq, List.cons.injEq, true_and, and_true] at e
    obtain ⟨_, _, _, rfl⟩ := e
    exact h1
  obtain ⟨ac, cc, rfl, _⟩ := k1
  obtain ⟨aa, ca, rfl, _⟩ := k2
  obtain ⟨ar, cr, _, _, rfl, _⟩ := k3
  obtain ⟨aw, cw, _, _, rfl, _⟩ := k4
  have HFT := hide hf
  obtain ⟨s, es⟩ : ∃ x, t.ses = x := ⟨_, rfl⟩
  obtain ⟨q, eq⟩ : ∃ x, t.req = x := ⟨_, rfl⟩
  obtain ⟨cn, ec⟩ : ∃ x, t.code.length = x := ⟨_, rfl⟩
  obtain ⟨an, ea⟩ : ∃ x, t.args.length = x := ⟨_, rfl⟩
  obtain ⟨rn, er⟩ : ∃ x, t.reads.length = x := ⟨_, rfl⟩
  obtain ⟨wn, ew⟩ : ∃ x, t.writes.length = x := ⟨_, rfl⟩
  have hfs := hf.ses; have hfq := hf.req
  rw [es] at hfs
  rw [eq] at hfq
  rw [ec] at HC m1
  rw [ea] at HA m2
  rw [er] at HR m3
  rw [ew] at HW m4
  rw [es, eq, ec, ea, er, ew]
  have HE : Hid (t.code.length = cn ∧ t.args.length = an ∧ t.reads.length = rn ∧ t.writes.length = wn) := ⟨ec, ea, er, ew⟩
  have htb : txnB t = putL [s, q] ++ (putL [(cn : Int)] ++ t.code) ++ putL [(an : Int)] ++ putL t.args ++ putL ((rn : Int) :: keyN t.reads) ++ putL ((wn : Int) :: keyN t.writes) := by unfold txnB; rw [es, eq, ec, ea, er, ew]
  have HTB := hide htb
  clear hT hf hm es eq ec ea er ew htb
  have hal : Below w.heap.size w ((w.alloc (.cells #[.pointer (some ⟨B, 0, none⟩)] 65)).alloc (.cells #[.int .i64 s, .int .i64 q, .slice ac cn cc, .slice aa an ca, .slice ar rn cr, .slice aw wn cw] 26)) := ((Below.refl _ _).alloc (Nat.le_refl _) _).alloc (by simp) _
  have HWB : Hid (∀ w', Wrote B lo ((w.alloc (.cells #[.pointer (some ⟨B, 0, none⟩)] 65)).alloc (.cells #[.int .i64 s, .int .i64 q, .slice ac cn cc, .slice aa an ca, .slice ar rn cr, .slice aw wn cw] 26)) w' → Below N w w') := fun w' k => ((Wrote.of (B := B) (lo := lo) hal).trans k).below hN (by omega) (by omega)
  have HBX : Hid (∀ w' : World, Wrote B lo ((w.alloc (.cells #[.pointer (some ⟨B, 0, none⟩)] 65)).alloc (.cells #[.int .i64 s, .int .i64 q, .slice ac cn cc, .slice aa an ca, .slice ar rn cr, .slice aw wn cw] 26)) w' → w'.cell? ⟨w.heap.size, 0, none⟩ = some (.pointer (some ⟨B, 0, none⟩)) ∧ w'.cell? ⟨w.heap.size + 1, 2, none⟩ = some (.slice ac cn cc) ∧ w'.cell? ⟨w.heap.size + 1, 3, none⟩ = some (.slice aa an ca) ∧ w'.cell? ⟨w.heap.size + 1, 4, none⟩ = some (.slice ar rn cr) ∧ w'.cell? ⟨w.heap.size + 1, 5, none⟩ = some (.slice aw wn cw)) := fun w' k => by
    have e : (w.alloc (.cells #[.pointer (some ⟨B, 0, none⟩)] 65)).heap.size = w.heap.size + 1 := by simp
    have b0 : ((w.alloc (.cells #[.pointer (some ⟨B, 0, none⟩)] 65)).alloc (.cells #[.int .i64 s, .int .i64 q, .slice ac cn cc, .slice aa an ca, .slice ar rn cr, .slice aw wn cw] 26)).heap[w.heap.size]? = some (.cells #[.pointer (some ⟨B, 0, none⟩)] 65) := (Below.heap_alloc _ _ _ (by simp)).trans (heap_alloc_new w _)
    have b1 : ((w.alloc (.cells #[.pointer (some ⟨B, 0, none⟩)] 65)).alloc (.cells #[.int .i64 s, .int .i64 q, .slice ac cn cc, .slice aa an ca, .slice ar rn cr, .slice aw wn cw] 26)).heap[w.heap.size + 1]? = some (.cells #[.int .i64 s, .int .i64 q, .slice ac cn cc, .slice aa an ca, .slice ar rn cr, .slice aw wn cw] 26) := by have := heap_alloc_new (w.alloc (.cells #[.pointer (some ⟨B, 0, none⟩)] 65)) (.cells #[.int .i64 s, .int .i64 q, .slice ac cn cc, .slice aa an ca, .slice ar rn cr, .slice aw wn cw] 26); rw [e] at this; exact this
    have c0 := k.block w.heap.size (by simp; omega) (by omega) (.inr fun cur e => by rw [b0] at e; cases e)
    have c1 := k.block (w.heap.size + 1) (by simp) (by omega) (.inr fun cur e => by rw [b1] at e; cases e)
    refine ⟨?_, ?_, ?_, ?_, ?_⟩
    · rw [World.cell?_of_block (a := ⟨w.heap.size, 0, none⟩) c0, World.cell?_alloc_lt _ _ _ (by simp), World.cell?_alloc_new]; rfl
    · rw [World.cell?_of_block (a := ⟨w.heap.size + 1, 2, none⟩) c1, ← e, World.cell?_alloc_new]; rfl
    · rw [World.cell?_of_block (a := ⟨w.heap.size + 1, 3, none⟩) c1, ← e, World.cell?_alloc_new]; rfl
    · rw [World.cell?_of_block (a := ⟨w.heap.size + 1, 4, none⟩) c1, ← e, World.cell?_alloc_new]; rfl
    · rw [World.cell?_of_block (a := ⟨w.heap.size + 1, 5, none⟩) c1, ← e, World.cell?_alloc_new]; rfl
  have HW2 : Hid (Wrote B lo w ((w.alloc (.cells #[.pointer (some ⟨B, 0, none⟩)] 65)).alloc (.cells #[.int .i64 s, .int .i64 q, .slice ac cn cc, .slice aa an ca, .slice ar rn cr, .slice aw wn cw] 26))) := Wrote.of hal
  have hal2 : Below ((w.alloc (.cells #[.pointer (some ⟨B, 0, none⟩)] 65)).alloc (.cells #[.int .i64 s, .int .i64 q, .slice ac cn cc, .slice aa an ca, .slice ar rn cr, .slice aw wn cw] 26)).heap.size ((w.alloc (.cells #[.pointer (some ⟨B, 0, none⟩)] 65)).alloc (.cells #[.int .i64 s, .int .i64 q, .slice ac cn cc, .slice aa an ca, .slice ar rn cr, .slice aw wn cw] 26)) (((w.alloc (.cells #[.pointer (some ⟨B, 0, none⟩)] 65)).alloc (.cells #[.int .i64 s, .int .i64 q, .slice ac cn cc, .slice aa an ca, .slice ar rn cr, .slice aw wn cw] 26)).alloc (.cells #[.int .i64 s, .int .i64 q] 2)) := (Below.refl _ _).alloc (Nat.le_refl _) _
  have HX0 : Hid (Wrote B lo ((w.alloc (.cells #[.pointer (some ⟨B, 0, none⟩)] 65)).alloc (.cells #[.int .i64 s, .int .i64 q, .slice ac cn cc, .slice aa an ca, .slice ar rn cr, .slice aw wn cw] 26)) (((w.alloc (.cells #[.pointer (some ⟨B, 0, none⟩)] 65)).alloc (.cells #[.int .i64 s, .int .i64 q, .slice ac cn cc, .slice aa an ca, .slice ar rn cr, .slice aw wn cw] 26)).alloc (.cells #[.int .i64 s, .int .i64 q] 2))) := Wrote.of hal2
  have HN1 := hide (nums_any ((h.below hal).below hal2) _ [s, q] (sees_lit ((w.alloc (.cells #[.pointer (some ⟨B, 0, none⟩)] 65)).alloc (.cells #[.int .i64 s, .int .i64 q, .slice ac cn cc, .slice aa an ca, .slice ar rn cr, .slice aw wn cw] 26)) [s, q] (by simp)) (by simp) (i64_of fun x hx => by simp at hx; rcases hx with rfl | rfl <;> omega) (by have : sizeL [s, q] ≤ 18 := sizeL_le [s, q]; omega))
  simp only [List.length_cons, List.length_nil, Nat.reduceAdd, World.size_alloc] at HN1
  clear h hal hal2 hfs hfq
  go_enter Tryz.func74, Tryz.ntmps74
  go_wp2_with fail
  refine (unhide HN1).mono ?_
  rintro e y1 ⟨rfl, p1, r1⟩
  have HP1 : Hid (Wr y1 B lo (xs ++ putL [s, q])) := by exact p1
  have HX1 : Hid (Wrote B lo ((w.alloc (.cells #[.pointer (some ⟨B, 0, none⟩)] 65)).alloc (.cells #[.int .i64 s, .int .i64 q, .slice ac cn cc, .slice aa an ca, .slice ar rn cr, .slice aw wn cw] 26)) y1) := (unhide HX0).trans r1
  obtain ⟨c10, c12, c13, c14, c15⟩ := unhide HBX y1 (unhide HX1)
  clear p1 r1
  have HN2 := hide (wblob_any (unhide HP1) _ t.code (unhide HC y1 (unhide HWB _ (unhide HX1))) (by
    have l1 := putL_le [s, q]; have l2 := putL_le [(cn : Int)]; have l3 := putL_le [(an : Int)]; have l4 := putL_le t.args; have l5 := putL_le ((rn : Int) :: keyN t.reads)
    obtain ⟨e1, e2, e3, e4⟩ := unhide HE
    simp only [List.length_append, List.length_cons, List.length_nil, keyN_length] at l1 l2 l3 l4 l5 ⊢
    skip
    omega))
  rw [(unhide HE).1] at HN2
  go_wp2_with fail
  refine (unhide HN2).mono ?_
  rintro e y2 ⟨rfl, p2, r2⟩
  have HP2 : Hid (Wr y2 B lo (xs ++ putL [s, q] ++ (putL [(cn : Int)] ++ t.code))) := by exact p2
  have HX2 : Hid (Wrote B lo ((w.alloc (.cells #[.pointer (some ⟨B, 0, none⟩)] 65)).alloc (.cells #[.int .i64 s, .int .i64 q, .slice ac cn cc, .slice aa an ca, .slice ar rn cr, .slice aw wn cw] 26)) y2) := (unhide HX1).trans r2
  obtain ⟨c20, c22, c23, c24, c25⟩ := unhide HBX y2 (unhide HX2)
  clear p2 r2
  have hz2 : Below y2.heap.size y2 (y2.alloc (.cells #[.int .i64 (an : Int)] 2)) := (Below.refl _ _).alloc (Nat.le_refl _) _
  have HN3 := hide (nums_any ((unhide HP2).below hz2) _ [(an : Int)] (sees_lit y2 [(an : Int)] (by simp)) (by simp) (i64_of fun x hx => by simp at hx; subst hx; omega) (by
    have l1 := putL_le [s, q]; have l2 := putL_le [(cn : Int)]; have l3 := putL_le [(an : Int)]; have l4 := putL_le t.args; have l5 := putL_le ((rn : Int) :: keyN t.reads)
    obtain ⟨e1, e2, e3, e4⟩ := unhide HE
    simp only [List.length_append, List.length_cons, List.length_nil, keyN_length] at l1 l2 l3 l4 l5 ⊢
    have l6 := sizeL_le [(an : Int)]; simp only [List.length_cons, List.length_nil] at l6
    omega))
  simp only [List.length_cons, List.length_nil, Nat.reduceAdd] at HN3
  have HX2b : Hid (Wrote B lo ((w.alloc (.cells #[.pointer (some ⟨B, 0, none⟩)] 65)).alloc (.cells #[.int .i64 s, .int .i64 q, .slice ac cn cc, .slice aa an ca, .slice ar rn cr, .slice aw wn cw] 26)) (y2.alloc (.cells #[.int .i64 (an : Int)] 2))) := (unhide HX2).trans (Wrote.of hz2)
  clear hz2
  go_wp2_with fail
  refine (unhide HN3).mono ?_
  rintro e y3 ⟨rfl, p3, r3⟩
  have HP3 : Hid (Wr y3 B lo (xs ++ putL [s, q] ++ (putL [(cn : Int)] ++ t.code) ++ putL [(an : Int)])) := by exact p3
  have HX3 : Hid (Wrote B lo ((w.alloc (.cells #[.pointer (some ⟨B, 0, none⟩)] 65)).alloc (.cells #[.int .i64 s, .int .i64 q, .slice ac cn cc, .slice aa an ca, .slice ar rn cr, .slice aw wn cw] 26)) y3) := (unhide HX2b).trans r3
  obtain ⟨c30, c32, c33, c34, c35⟩ := unhide HBX y3 (unhide HX3)
  clear p3 r3
  have HN4 := hide (nums_any (unhide HP3) _ t.args (unhide HA y3 (unhide HWB _ (unhide HX3))) (by have := (unhide HE).2.1; omega) (i64_of (unhide HFT).args) (by
    have l1 := putL_le [s, q]; have l2 := putL_le [(cn : Int)]; have l3 := putL_le [(an : Int)]; have l4 := putL_le t.args; have l5 := putL_le ((rn : Int) :: keyN t.reads)
    obtain ⟨e1, e2, e3, e4⟩ := unhide HE
    simp only [List.length_append, List.length_cons, List.length_nil, keyN_length] at l1 l2 l3 l4 l5 ⊢
    have l6 := sizeL_le t.args
    omega))
  go_wp2_with fail
  refine (unhide HN4).mono ?_
  rintro e y4 ⟨rfl, p4, r4⟩
  have HP4 : Hid (Wr y4 B lo (xs ++ putL [s, q] ++ (putL [(cn : Int)] ++ t.code) ++ putL [(an : Int)] ++ putL t.args)) := by exact p4
  have HX4 : Hid (Wrote B lo ((w.alloc (.cells #[.pointer (some ⟨B, 0, none⟩)] 65)).alloc (.cells #[.int .i64 s, .int .i64 q, .slice ac cn cc, .slice aa an ca, .slice ar rn cr, .slice aw wn cw] 26)) y4) := (unhide HX3).trans r4
  obtain ⟨c40, c42, c43, c44, c45⟩ := unhide HBX y4 (unhide HX4)
  clear p4 r4
  have HN5 := hide (putKeys_any (N := N) (unhide HP4) _ t.reads hN (fun w' hb => unhide HR w' ((unhide HWB _ (unhide HX4)).trans hb)) (unhide HFT).reads (by have := (unhide HE).2.2.1; omega) (by
    have l1 := putL_le [s, q]; have l2 := putL_le [(cn : Int)]; have l3 := putL_le [(an : Int)]; have l4 := putL_le t.args; have l5 := putL_le ((rn : Int) :: keyN t.reads)
    obtain ⟨e1, e2, e3, e4⟩ := unhide HE
    simp only [List.length_append, List.length_cons, List.length_nil, keyN_length] at l1 l2 l3 l4 l5 ⊢
    skip
    omega))
  rw [(unhide HE).2.2.1] at HN5
  go_wp2_with fail
  refine (unhide HN5).mono ?_
  rintro e y5 ⟨rfl, p5, r5⟩
  have HP5 : Hid (Wr y5 B lo (xs ++ putL [s, q] ++ (putL [(cn : Int)] ++ t.code) ++ putL [(an : Int)] ++ putL t.args ++ putL ((rn : Int) :: keyN t.reads))) := by exact p5
  have HX5 : Hid (Wrote B lo ((w.alloc (.cells #[.pointer (some ⟨B, 0, none⟩)] 65)).alloc (.cells #[.int .i64 s, .int .i64 q, .slice ac cn cc, .slice aa an ca, .slice ar rn cr, .slice aw wn cw] 26)) y5) := (unhide HX4).trans r5
  obtain ⟨c50, c52, c53, c54, c55⟩ := unhide HBX y5 (unhide HX5)
  clear p5 r5
  have HN6 := hide (putKeys_any (N := N) (unhide HP5) _ t.writes hN (fun w' hb => unhide HW w' ((unhide HWB _ (unhide HX5)).trans hb)) (unhide HFT).writes (by have := (unhide HE).2.2.2; omega) (by
    have l1 := putL_le [s, q]; have l2 := putL_le [(cn : Int)]; have l3 := putL_le [(an : Int)]; have l4 := putL_le t.args; have l5 := putL_le ((rn : Int) :: keyN t.reads)
    obtain ⟨e1, e2, e3, e4⟩ := unhide HE
    simp only [List.length_append, List.length_cons, List.length_nil, keyN_length] at l1 l2 l3 l4 l5 ⊢
    skip
    omega))
  rw [(unhide HE).2.2.2] at HN6
  go_wp2_with fail
  refine (unhide HN6).mono ?_
  rintro e y6 ⟨rfl, p6, r6⟩
  have HF : Hid (Wr y6 B lo (xs ++ txnB t) ∧ Wrote B lo w y6) := ⟨by rw [unhide HTB]; simpa only [List.append_assoc] using p6, (unhide HW2).trans ((unhide HX5).trans r6)⟩
  clear p6 r6
  go_wp2_with fail
  go_end0
  exact ⟨rfl, unhide HF⟩
end Go.Proofs.YtggllgimlfchhaaGreat

/- Record: entries, written. -/
namespace Go.Proofs.YtggllgimlfchhaaGreat
open Go.RowKit
set_option maxRecDepth 100000

/-- A slice of transactions that lies below N. -/
def StTs (N : Nat) (w : World) (v : Value) (l : List TxnD) : Prop :=
  ∃ ao cap gb ob, ∃ cs : Nat → Value × Value × Value × Value, v = .slice ao l.length cap ∧ l.length ≤ cap ∧ l.length ≤ 9223372036854775807 ∧ (0 < l.length → ao = some ⟨gb, ob, none⟩) ∧
    ∀ t, t < l.length → ∀ w', Below N w w' → w'.cell? ⟨gb, ob + t * 6, none⟩ = some (.int .i64 (l.getD t dT).ses) ∧ w'.cell? ⟨gb, ob + t * 6 + 1, none⟩ = some (.int .i64 (l.getD t dT).req) ∧ w'.cell? ⟨gb, ob + t * 6 + 2, none⟩ = some (cs t).1 ∧ w'.cell? ⟨gb, ob + t * 6 + 3, none⟩ = some (cs t).2.1 ∧ w'.cell? ⟨gb, ob + t * 6 + 4, none⟩ = some (cs t).2.2.1 ∧ w'.cell? ⟨gb, ob + t * 6 + 5, none⟩ = some (cs t).2.2.2 ∧
      SeesT w' #[.int .i64 (l.getD t dT).ses, .int .i64 (l.getD t dT).req, (cs t).1, (cs t).2.1, (cs t).2.2.1, (cs t).2.2.2] (l.getD t dT)
theorem StTs.on {N : Nat} {w w1 : World} {v : Value} {l : List TxnD} (h : StTs N w v l) (hb : Below N w w1) : StTs N w1 v l := by
  obtain ⟨ao, cap, gb, ob, cs, h1, h2, h3, h4, h5⟩ := h
  exact ⟨ao, cap, gb, ob, cs, h1, h2, h3, h4, fun t ht w' hb' => h5 t ht w' (hb.trans hb')⟩
theorem choose_below {α : Type} {P : Nat → α → Prop} [Inhabited α] {n : Nat} (h : ∀ t, t < n → ∃ a, P t a) : ∃ f : Nat → α, ∀ t, t < n → P t (f t) := by
  classical
  refine ⟨fun t => if ht : t < n then Classical.choose (h t ht) else default, fun t ht => ?_⟩
  simp only [ht, dif_pos]
  exact Classical.choose_spec (h t ht)
instance : Inhabited Value := ⟨.slice none 0 0⟩
theorem StTs.of {w : World} {v : Value} {l : List TxnD} (h : SeesTs w v l) : StTs w.heap.size w v l := by
  obtain ⟨ao, cap, gb, ob, h1, h2, h3, h4, h5⟩ := h
  obtain ⟨cs, hcs⟩ := choose_below (α := Value × Value × Value × Value) (n := l.length) (P := fun t c => w.cell? ⟨gb, ob + t * 6, none⟩ = some (.int .i64 (l.getD t dT).ses) ∧ w.cell? ⟨gb, ob + t * 6 + 1, none⟩ = some (.int .i64 (l.getD t dT).req) ∧ w.cell? ⟨gb, ob + t * 6 + 2, none⟩ = some c.1 ∧ w.cell? ⟨gb, ob + t * 6 + 3, none⟩ = some c.2.1 ∧ w.cell? ⟨gb, ob + t * 6 + 4, none⟩ = some c.2.2.1 ∧ w.cell? ⟨gb, ob + t * 6 + 5, none⟩ = some c.2.2.2 ∧
      SeesT w #[.int .i64 (l.getD t dT).ses, .int .i64 (l.getD t dT).req, c.1, c.2.1, c.2.2.1, c.2.2.2] (l.getD t dT)) (fun t ht => by
    obtain ⟨cv, av, rv, wv, r⟩ := h5 t ht
    exact ⟨(cv, av, rv, wv), r⟩)
  refine ⟨ao, cap, gb, ob, cs, h1, h2, h3, h4, fun t ht w' hb => ?_⟩
  obtain ⟨q0, q1, q2, q3, q4, q5, qs⟩ := hcs t ht
  have c : ∀ o u, w.cell? ⟨gb, o, none⟩ = some u → w'.cell? ⟨gb, o, none⟩ = some u := fun o u h => (hb.cell (p := ⟨gb, o, none⟩) (World.block_lt_of_cell? w _ h)).trans h
  exact ⟨c _ _ q0, c _ _ q1, c _ _ q2, c _ _ q3, c _ _ q4, c _ _ q5, qs.below hb⟩
theorem StTs.sees {N : Nat} {w : World} {v : Value} {l : List TxnD} (h : StTs N w v l) : SeesTs w v l := by
  obtain ⟨ao, cap, gb, ob, cs, h1, h2, h3, h4, h5⟩ := h
  exact ⟨ao, cap, gb, ob, h1, h2, h3, h4, fun t ht => ⟨_, _, _, _, h5 t ht w (Below.refl _ _)⟩⟩

/-- Transactions' forms, one behind the other. -/
def txnsB (l : List TxnD) : List Int := (l.map txnB).flatten
theorem txnB_le {t : TxnD} (h : mayT t = true) : (txnB t).length ≤ 2000 := by
  obtain ⟨m1, m2, m3, m4⟩ := mayT_le h
  have l1 := putL_le [t.ses, t.req]; have l2 := putL_le [(t.code.length : Int)]; have l3 := putL_le [(t.args.length : Int)]; have l4 := putL_le t.args; have l5 := putL_le ((t.reads.length : Int) :: keyN t.reads); have l6 := putL_le ((t.writes.length : Int) :: keyN t.writes)
  unfold txnB
  simp only [List.length_append, List.length_cons, List.length_nil, keyN_length] at l1 l2 l3 l4 l5 l6 ⊢
  omega
theorem txnsB_le {l : List TxnD} (h : ∀ t ∈ l, mayT t = true) : (txnsB l).length ≤ 2000 * l.length := by
  induction l with
  | nil => simp [txnsB]
  | cons x r ih =>
    have h1 := txnB_le (h x (List.mem_cons_self ..))
    have h2 := ih (fun t ht => h t (List.mem_cons_of_mem _ ht))
    simp only [txnsB, List.map_cons, List.flatten_cons, List.length_append, List.length_cons] at h2 ⊢
    omega
theorem take_txns (l : List TxnD) (t : Nat) (ht : t < l.length) : txnsB (l.take (t + 1)) = txnsB (l.take t) ++ txnB (l.getD t dT) := by
  have e : l.take (t + 1) = l.take t ++ [l.getD t dT] := by
    rw [List.take_add_one]
    simp [List.getD, ht]
  rw [e]
  simp [txnsB]

set_option maxHeartbeats 3200000 in
theorem putTxns_any {w : World} {B lo N : Nat} {xs : List Int} (h : Wr w B lo xs) (v : Value) (l : List TxnD) (hN : N ≤ B) (hK : StTs N w v l) (hf : ∀ t ∈ l, FitT t) (hm : ∀ t ∈ l, mayT t = true) (hl : l.length ≤ 16) (hn : xs.length ≤ 17179869184) :
    Calls Tryz.prog 73 #[.pointer (some ⟨B, 0, none⟩), v, .func (.func 74) #[.agg #[.pointer (some ⟨B, 0, none⟩)]] #[]] w fun e w' => e = .returned (.tuple #[]) ∧ Wr w' B lo (xs ++ (putL [(l.length : Int)] ++ txnsB l)) ∧ Wrote B lo w w' := by
  have hlt := h.lt; have hle := h.le
  obtain ⟨ao, cap, gb, ob, cs, rfl, hcap, _, hao, hcl⟩ := hK
  have hal : Below w.heap.size w (w.alloc (.cells #[.int .i64 (l.length : Int)] 2)) := (Below.refl _ _).alloc (Nat.le_refl _) _
  have hs := sees_lit w [(l.length : Int)] (by simp)
  have hsz : sizeL [(l.length : Int)] ≤ 9 := sizeL_le [(l.length : Int)]
  have HN := hide (nums_any (h.below hal) _ [(l.length : Int)] hs (by simp) (i64_of fun x hx => by simp at hx; subst hx; omega) (by omega))
  have HW : Hid (Wrote B lo w _) := Wrote.of hal
  have HF := hide hf
  have HM := hide hm
  have HAO := hide hao
  have HCL := hide hcl
  have HWB : Hid (∀ w', Wrote B lo w w' → Below N w w') := fun w' k => k.below hN (by omega) (by omega)
  clear h hal hs hsz hf hm hlt hle hao hcl
  go_enter Tryz.func73, Tryz.ntmps73
  go_wp2_with fail
  simp only [List.length_cons, List.length_nil, Nat.reduceAdd] at HN
  refine (unhide HN).mono ?_
  rintro e w2 ⟨rfl, h1, h2⟩
  have HR : Hid (Wr w2 B lo (xs ++ (putL [(l.length : Int)] ++ txnsB (l.take 0))) ∧ Wrote B lo w w2) := ⟨by simpa [txnsB] using h1, (unhide HW).trans h2⟩
  clear h1 h2 HN
  go_wp2
  go_loopw [15] (fun c wr => ∃ t : Nat, t ≤ l.length ∧ c = .int .i64 t ∧ Wr wr B lo (xs ++ (putL [(l.length : Int)] ++ txnsB (l.take t))) ∧ Wrote B lo w wr) (fun c _ => l.length - (intOf c).toNat)
  case atStart => exact ⟨0, by omega, rfl, (unhide HR).1, (unhide HR).2⟩
  case round =>
    obtain ⟨t, ht, rfl, hw, hwr⟩ := hrel
    by_cases hlt : t < l.length
    · obtain rfl := unhide HAO (by omega)
      have hb := unhide HWB _ hwr
      obtain ⟨kh0, kh1, kh2, kh3, kh4, kh5, khs⟩ := unhide HCL t hlt wr hb
      have HST : Hid (∀ w', Below N wr w' → SeesT w' #[.int .i64 (l.getD t dT).ses, .int .i64 (l.getD t dT).req, (cs t).1, (cs t).2.1, (cs t).2.2.1, (cs t).2.2.2] (l.getD t dT)) := fun w' hb' => (unhide HCL t hlt w' (hb.trans hb')).2.2.2.2.2.2
      have hmem : l.getD t dT ∈ l := by
        have e : l.getD t dT = l[t] := by simp [List.getD, hlt]
        rw [e]; exact List.getElem_mem hlt
      have hft := unhide HF _ hmem
      have hmt := unhide HM _ hmem
      have htk := take_txns l t hlt
      obtain ⟨k1, kc1, k2, kc2, k3, kc3, k4, kc4, e1, e2, e3, e4⟩ := khs.shape
      rw [e1] at kh2 HST
      rw [e2] at kh3 HST
      rw [e3] at kh4 HST
      rw [e4] at kh5 HST
      clear e1 e2 e3 e4 khs
      obtain ⟨d, hd⟩ : ∃ d, l.getD t dT = d := ⟨_, rfl⟩
      rw [hd] at kh0 kh1 kh2 kh3 kh4 kh5 HST hft hmt htk
      obtain ⟨ds, es⟩ : ∃ n, d.ses = n := ⟨_, rfl⟩
      obtain ⟨dq, eq⟩ : ∃ n, d.req = n := ⟨_, rfl⟩
      obtain ⟨n1, e1⟩ : ∃ n, d.code.length = n := ⟨_, rfl⟩
      obtain ⟨n2, e2⟩ : ∃ n, d.args.length = n := ⟨_, rfl⟩
      obtain ⟨n3, e3⟩ : ∃ n, d.reads.length = n := ⟨_, rfl⟩
      obtain ⟨n4, e4⟩ : ∃ n, d.writes.length = n := ⟨_, rfl⟩
      rw [es] at kh0
      rw [eq] at kh1
      rw [e1] at kh2
      rw [e2] at kh3
      rw [e3] at kh4
      rw [e4] at kh5
      rw [es, eq, e1, e2, e3, e4] at HST
      clear es eq e1 e2 e3 e4 hd
      have hal : Below wr.heap.size wr (wr.alloc (.cells #[.int .i64 ds, .int .i64 dq, .slice k1 n1 kc1, .slice k2 n2 kc2, .slice k3 n3 kc3, .slice k4 n4 kc4] 26)) := (Below.refl _ _).alloc (Nat.le_refl _) _
      have hlen : (xs ++ (putL [(l.length : Int)] ++ txnsB (l.take t))).length ≤ 68719476736 := by
        have l1 := putL_le [(l.length : Int)]
        have l2 := txnsB_le (l := l.take t) (fun x hx => unhide HM x (List.mem_of_mem_take hx))
        simp only [List.length_append, List.length_cons, List.length_nil, List.length_take] at l1 l2 ⊢
        omega
      have HNs : Hid (N ≤ wr.heap.size) := by have := hw.lt; have := hw.le; show N ≤ _; omega
      have HC := hide (txn_any (N := N) (hw.below hal) _ d hN (fun w' hb' => unhide HST w' ((hal.mono (unhide HNs)).trans hb')) hft hmt hlen)
      have HW2 : Hid (Wrote B lo w _) := hwr.trans (Wrote.of hal)
      have HTK := hide htk
      clear hw hwr hb hal hlen hft hmt htk hmem HST
      go_wp2_with fail
      refine (unhide HC).mono ?_
      rintro e w3 ⟨rfl, h1, h2⟩
      have HR3 : Hid (Wr w3 B lo (xs ++ (putL [(l.length : Int)] ++ txnsB (l.take (t + 1)))) ∧ Wrote B lo w w3) := ⟨by rw [unhide HTK]; simpa only [List.append_assoc] using h1, (unhide HW2).trans h2⟩
      clear h1 h2 HC
      go_wp2
      go_roundw
      case rel => exact ⟨t + 1, by omega, by go_num, (unhide HR3).1, (unhide HR3).2⟩
      case measure => simp [intOf]; omega
    · have HE : Hid (Wr wr B lo (xs ++ (putL [(l.length : Int)] ++ txnsB l)) ∧ Wrote B lo w wr) := by
        rw [List.take_of_length_le (by omega)] at hw
        exact ⟨hw, hwr⟩
      clear hw hwr
      go_wp2
      go_end0
      exact ⟨rfl, unhide HE⟩
end Go.Proofs.YtggllgimlfchhaaGreat
