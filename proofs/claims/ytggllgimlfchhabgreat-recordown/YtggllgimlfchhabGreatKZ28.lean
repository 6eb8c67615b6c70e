/- Several texts as one. -/
import Derived.Test.YtggllgimlfchhabGreatKZ27

/- Record: keys, written. -/
namespace Go.Proofs.YtggllgimlfchhabGreat
open Go.RowKit
set_option maxRecDepth 100000

theorem sees_lit (w : World) (zs : List Int) (h : zs.length ≤ 9223372036854775807) : Sees (w.alloc (.cells (ints .i64 zs).toArray 2)) .i64 (.slice (some ⟨w.heap.size, 0, none⟩) zs.length zs.length) zs :=
  (sees_of_own (own_new w .i64 zs 2 w.heap.size zs.length rfl (Nat.le_refl _) (by unfold maxLen; omega))).2
theorem i64_of {l : List Int} (h : ∀ x ∈ l, -9223372036854775808 ≤ x ∧ x ≤ 9223372036854775807) : I64 l := fun t ht => by
  have e : l.getD t 0 = l[t] := by simp [List.getD, ht]
  rw [e]
  exact h _ (List.getElem_mem ht)
/-- The numbers of keys. -/
def keyN : List (Int × Int) → List Int
  | [] => []
  | k :: l => k.1 :: k.2 :: keyN l
theorem keyN_append (a b : List (Int × Int)) : keyN (a ++ b) = keyN a ++ keyN b := by
  induction a with
  | nil => rfl
  | cons x r ih => simp [keyN, ih]
theorem keyN_length (l : List (Int × Int)) : (keyN l).length = 2 * l.length := by
  induction l with
  | nil => rfl
  | cons x r ih => simp [keyN, ih]; omega
/-- Keys that lie in memory. -/
def OkK (l : List (Int × Int)) : Prop := ∀ k ∈ l, (-2147483648 ≤ k.1 ∧ k.1 ≤ 2147483647) ∧ (-9223372036854775808 ≤ k.2 ∧ k.2 ≤ 9223372036854775807)
theorem OkK.at {l : List (Int × Int)} (h : OkK l) {t : Nat} (ht : t < l.length) : (-2147483648 ≤ (l.getD t (0, 0)).1 ∧ (l.getD t (0, 0)).1 ≤ 2147483647) ∧ (-9223372036854775808 ≤ (l.getD t (0, 0)).2 ∧ (l.getD t (0, 0)).2 ≤ 9223372036854775807) := by
  have e : l.getD t (0, 0) = l[t] := by simp [List.getD, ht]
  rw [e]
  exact h _ (List.getElem_mem ht)

set_option maxHeartbeats 800000 in
theorem key_any {w : World} {B lo : Nat} {xs : List Int} (h : Wr w B lo xs) (a b : Int) (ha : -2147483648 ≤ a ∧ a ≤ 2147483647) (hb : -9223372036854775808 ≤ b ∧ b ≤ 9223372036854775807) (hn : xs.length ≤ 274877906944) :
    Calls Tryz.prog 88 #[.agg #[.pointer (some ⟨B, 0, none⟩)], .agg #[.int .i32 a, .int .i64 b]] w fun e w' => e = .returned (.tuple #[]) ∧ Wr w' B lo (xs ++ putL [a, b]) ∧ Wrote B lo w w' := by
  have hwa : IntKind.i64.wrap a = a := wrap_i64 _ (by omega) (by omega)
  have hal : Below w.heap.size w (((w.alloc (.cells #[.pointer (some ⟨B, 0, none⟩)] 60)).alloc (.cells #[.int .i32 a, .int .i64 b] 91)).alloc (.cells #[.int .i64 a, .int .i64 b] 2)) := ((((Below.refl _ _).alloc (Nat.le_refl _) _).alloc (by simp) _).alloc (by simp; omega) _)
  have hs := sees_lit ((w.alloc (.cells #[.pointer (some ⟨B, 0, none⟩)] 60)).alloc (.cells #[.int .i32 a, .int .i64 b] 91)) [a, b] (by simp)
  have hsz : sizeL [a, b] ≤ 18 := sizeL_le [a, b]
  have HN := hide (nums_any (h.below hal) _ [a, b] hs (by simp) (i64_of fun x hx => by simp at hx; rcases hx with rfl | rfl <;> omega) (by omega))
  have HW : Hid (Wrote B lo w _) := Wrote.of hal
  clear h hal hs hsz ha hb
  go_enter Tryz.func88, Tryz.ntmps88
  go_wp2_with fail
  simp only [List.length_cons, List.length_nil, Nat.reduceAdd, World.size_alloc] at HN
  refine (unhide HN).mono ?_
  rintro e w2 ⟨rfl, h1, h2⟩
  have HR : Hid (Wr w2 B lo (xs ++ putL [a, b]) ∧ Wrote B lo w w2) := ⟨h1, (unhide HW).trans h2⟩
  clear h1 h2
  go_wp2_with fail
  go_end0
  exact ⟨rfl, unhide HR⟩

theorem take_keys (l : List (Int × Int)) (t : Nat) (ht : t < l.length) : keyN (l.take (t + 1)) = keyN (l.take t) ++ [(l.getD t (0, 0)).1, (l.getD t (0, 0)).2] := by
  have e : l.take (t + 1) = l.take t ++ [l.getD t (0, 0)] := by
    rw [List.take_add_one]
    simp [List.getD, ht]
  rw [e, keyN_append]
  rfl

set_option maxHeartbeats 1600000 in
theorem putKeys_any {w : World} {B lo N : Nat} {xs : List Int} (h : Wr w B lo xs) (v : Value) (l : List (Int × Int)) (hN : N ≤ B) (hK : ∀ w', Below N w w' → SeesK w' v l) (hk : OkK l) (hl : l.length ≤ 4096) (hn : xs.length ≤ 137438953472) :
    Calls Tryz.prog 87 #[.pointer (some ⟨B, 0, none⟩), v, .func (.func 88) #[.agg #[.pointer (some ⟨B, 0, none⟩)]] #[]] w fun e w' => e = .returned (.tuple #[]) ∧ Wr w' B lo (xs ++ putL ((l.length : Int) :: keyN l)) ∧ Wrote B lo w w' := by
  have hlt := h.lt; have hle := h.le
  have HK := hide hK
  obtain ⟨ao, cap, _, _, rfl, hcap, _⟩ := hK w (Below.refl _ _)
  have hal : Below w.heap.size w (w.alloc (.cells #[.int .i64 (l.length : Int)] 2)) := (Below.refl _ _).alloc (Nat.le_refl _) _
  have hs := sees_lit w [(l.length : Int)] (by simp)
  have hsz : sizeL [(l.length : Int)] ≤ 9 := sizeL_le [(l.length : Int)]
  have HN := hide (nums_any (h.below hal) _ [(l.length : Int)] hs (by simp) (i64_of fun x hx => by simp at hx; subst hx; omega) (by omega))
  have HW : Hid (Wrote B lo w _) := Wrote.of hal
  have HOK := hide hk
  have HWB : Hid (∀ w', Wrote B lo w w' → Below N w w') := fun w' k => k.below hN (by omega) (by omega)
  clear h hal hs hsz hK hk hlt hle
  go_enter Tryz.func87, Tryz.ntmps87
  go_wp2_with fail
  simp only [List.length_cons, List.length_nil, Nat.reduceAdd] at HN
  refine (unhide HN).mono ?_
  rintro e w2 ⟨rfl, h1, h2⟩
  have HR : Hid (Wr w2 B lo (xs ++ putL [(l.length : Int)]) ∧ Wrote B lo w w2) := ⟨h1, (unhide HW).trans h2⟩
  clear h1 h2 HN
  go_wp2
  go_loopw [15] (fun c wr => ∃ t : Nat, t ≤ l.length ∧ c = .int .i64 t ∧ Wr wr B lo (xs ++ putL ((l.length : Int) :: keyN (l.take t))) ∧ Wrote B lo w wr) (fun c _ => l.length - (intOf c).toNat)
  case atStart => exact ⟨0, by omega, rfl, (unhide HR).1, (unhide HR).2⟩
  case round =>
    obtain ⟨t, ht, rfl, hw, hwr⟩ := hrel
    by_cases hlt : t < l.length
    · obtain ⟨ao', cap', gb, ob, hv, _, _, hao, hcl⟩ := unhide HK wr (unhide HWB _ hwr)
      simp only [Value.slice.injEq, true_and] at hv
      obtain ⟨rfl, rfl⟩ := hv
      obtain rfl := hao (by omega)
      obtain ⟨c0, c1⟩ := hcl t hlt
      have hok := (unhide HOK).at hlt
      have htk := take_keys l t hlt
      obtain ⟨k, hk⟩ : ∃ k, l.getD t (0, 0) = k := ⟨_, rfl⟩
      rw [hk] at c0 c1 hok htk
      obtain ⟨a, b⟩ := k
      simp only at c0 c1 hok htk
      have hal : Below wr.heap.size wr (wr.alloc (.cells #[.int .i32 a, .int .i64 b] 91)) := (Below.refl _ _).alloc (Nat.le_refl _) _
      have hlen : (xs ++ putL ((l.length : Int) :: keyN (l.take t))).length ≤ 274877906944 := by
        rw [List.length_append, putL_length]
        have := sizeL_le ((l.length : Int) :: keyN (l.take t))
        rw [List.length_cons, keyN_length, List.length_take] at this
        omega
      have HC := hide (key_any (hw.below hal) a b hok.1 hok.2 hlen)
      have HW2 : Hid (Wrote B lo w _) := hwr.trans (Wrote.of hal)
      have HTK := hide htk
      clear hcl hao hk hok htk hw hwr hal hlen
      go_wp2_with fail
      refine (unhide HC).mono ?_
      rintro e w3 ⟨rfl, h1, h2⟩
      have HR3 : Hid (Wr w3 B lo (xs ++ putL ((l.length : Int) :: keyN (l.take (t + 1)))) ∧ Wrote B lo w w3) := ⟨by rw [unhide HTK]; rw [List.append_assoc, ← putL_append] at h1; exact h1, (unhide HW2).trans h2⟩
      clear h1 h2 HC
      go_wp2
      go_roundw
      case rel => exact ⟨t + 1, by omega, by go_num, (unhide HR3).1, (unhide HR3).2⟩
      case measure => simp [intOf]; omega
    · have HE : Hid (Wr wr B lo (xs ++ putL ((l.length : Int) :: keyN l)) ∧ Wrote B lo w wr) := by
        rw [List.take_of_length_le (by omega)] at hw
        exact ⟨hw, hwr⟩
      clear hw hwr
      go_wp2
      go_end0
      exact ⟨rfl, unhide HE⟩
end Go.Proofs.YtggllgimlfchhabGreat

/- Record: transactions, written. -/
namespace Go.Proofs.YtggllgimlfchhabGreat
open Go.RowKit
set_option maxRecDepth 100000

/-- A transaction's form. -/
def txnB (t : TxnD) : List Int :=
  putL [t.ses, t.req] ++ (putL [(t.code.length : Int)] ++ t.code) ++ putL [(t.args.length : Int)] ++ putL t.args ++ putL ((t.reads.length : Int) :: keyN t.reads) ++ putL ((t.writes.length : Int) :: keyN t.writes)
/-- What memory holds. -/
structure FitT (t : TxnD) : Prop where
  ses : -9223372036854775808 ≤ t.ses ∧ t.ses ≤ 9223372036854775807
  req : -9223372036854775808 ≤ t.req ∧ t.req ≤ 9223372036854775807
  code : Byt t.code
  args : ∀ x ∈ t.args, -9223372036854775808 ≤ x ∧ x ≤ 9223372036854775807
  reads : OkK t.reads
  writes : OkK t.writes
theorem mayK_le {l : List (Int × Int)} (h : mayK l = true) : l.length ≤ 16 := by
  unfold mayK at h
  simp at h
  exact h.1
theorem mayT_le {t : TxnD} (h : mayT t = true) : t.code.length ≤ 512 ∧ t.args.length ≤ 8 ∧ t.reads.length ≤ 16 ∧ t.writes.length ≤ 16 := by
  unfold mayT at h
  simp only [Bool.and_eq_true, decide_eq_true_eq] at h
  exact ⟨h.1.1.1.2, h.1.1.2, mayK_le h.1.2, mayK_le h.2⟩
theorem putL_le (l : List Int) : (putL l).length ≤ 9 * l.length := by rw [putL_length]; exact sizeL_le l

set_option maxHeartbeats 3200000 in
theorem txn_any {w : World} {B lo N : Nat} {xs : List Int} (h : Wr w B lo xs) (cs : Array Value) (t : TxnD) (hN : N ≤ B) (hT : ∀ w', Below N w w' → SeesT w' cs t) (hf : FitT t) (hm : mayT t = true) (hn : xs.length ≤ 68719476736) :
    Calls Tryz.prog 56 #[.agg #[.pointer (some ⟨B, 0, none⟩)], .agg cs] w fun e w' => e = .returned (.tuple #[]) ∧ Wr w' B lo (xs ++ txnB t) ∧ Wrote B lo w w' := by
  obtain ⟨m1, m2, m3, m4⟩ := mayT_le hm
  have hlt := h.lt; have hle := h.le
  obtain ⟨cv, av, rv, wv, rfl, k1, k2, k3, k4⟩ := hT w (Below.refl _ _)
  have HC : Hid (∀ w', Below N w w' → Sees w' .u8 cv t.code) := fun w' hb => by
    obtain ⟨_, _, _, _, e, h1, _⟩ := hT w' hb
    simp only [Array.mk.injEq, List.cons.injEq, true_and, and_true] at e
    obtain ⟨rfl, _⟩ := e
    exact h1
  have HA : Hid (∀ w', Below N w w' → Sees w' .i64 av t.args) := fun w' hb => by
    obtain ⟨_, _, _, _, e, _, h1, _⟩ := hT w' hb
    simp only [Array.mk.injEq, List.cons.injEq, true_and, and_true] at e
    obtain ⟨_, rfl, _⟩ := e
    exact h1
  have HR : Hid (∀ w', Below N w w' → SeesK w' rv t.reads) := fun w' hb => by
    obtain ⟨_, _, _, _, e, _, _, h1, _⟩ := hT w' hb
    simp only [Array.mk.injEq, List.cons.injEq, true_and, and_true] at e
    obtain ⟨_, _, rfl, _⟩ := e
    exact h1
  have HW : Hid (∀ w', Below N w w' → SeesK w' wv t.writes) := fun w' hb => by
    obtain ⟨_, _, _, _, e, _, _, _, h1⟩ := hT w' hb
    simp only [Array.mk.injEq, List.cons.injEq, true_and, and_true] at e
    obtain ⟨_, _, _, rfl⟩ := e
    exact h1
  obtain ⟨ac, cc, rfl, _⟩ := k1
  obtain ⟨aa, ca, rfl, _⟩ := k2
  obtain ⟨ar, cr, _, _, rfl, _⟩ := k3
  obtain ⟨aw, cw, _, _, rfl, _⟩ := k4
  have HFT := hide hf
  obtain ⟨s, es⟩ : ∃ x, t.ses = x := ⟨_, rfl⟩
  obtain ⟨q, eq⟩ : ∃ x, t.req = x := ⟨_, rfl⟩
  obtain ⟨cn, ec⟩ : ∃ x, t.code.length = x := ⟨_, rfl⟩
  obtain ⟨an, ea⟩ : ∃ x, t.args.length = x := ⟨_, rfl⟩
  obtain ⟨rn, er⟩ : ∃ x, t.reads.length = x := ⟨_, rfl⟩
  obtain ⟨wn, ew⟩ : ∃ x, t.writes.length = x := ⟨_, rfl⟩
  have hfs := hf.ses; have hfq := hf.req
  rw [es] at hfs
  rw [eq] at hfq
  rw [ec] at HC m1
  rw [ea] at HA m2
  rw [er] at HR m3
  rw [ew] at HW m4
  rw [es, eq, ec, ea, er, ew]
  have HE : Hid (t.code.length = cn ∧ t.args.length = an ∧ t.reads.length = rn ∧ t.writes.length = wn) := ⟨ec, ea, er, ew⟩
  have htb : txnB t = putL [s, q] ++ (putL [(cn : Int)] ++ t.code) ++ putL [(an : Int)] ++ putL t.args ++ putL ((rn : Int) :: keyN t.reads) ++ putL ((wn : Int) :: keyN t.writes) := by unfold txnB; rw [es, eq, ec, ea, er, ew]
  have HTB := hide htb
  clear hT hf hm es eq ec ea er ew htb
  have hal : Below w.heap.size w ((w.alloc (.cells #[.pointer (some ⟨B, 0, none⟩)] 60)).alloc (.cells #[.int .i64 s, .int .i64 q, .slice ac cn cc, .slice aa an ca, .slice ar rn cr, .slice aw wn cw] 70)) := ((Below.refl _ _).alloc (Nat.le_refl _) _).alloc (by simp) _
  have HWB : Hid (∀ w', Wrote B lo ((w.alloc (.cells #[.pointer (some ⟨B, 0, none⟩)] 60)).alloc (.cells #[.int .i64 s, .int .i64 q, .slice ac cn cc, .slice aa an ca, .slice ar rn cr, .slice aw wn cw] 70)) w' → Below N w w') := fun w' k => ((Wrote.of (B := B) (lo := lo) hal).trans k).below hN (by omega) (by omega)
  have HBX : Hid (∀ w' : World, Wrote B lo ((w.alloc (.cells #[.pointer (some ⟨B, 0, none⟩)] 60)).alloc (.cells #[.int .i64 s, .int .i64 q, .slice ac cn cc, .slice aa an ca, .slice ar rn cr, .slice aw wn cw] 70)) w' → w'.cell? ⟨w.heap.size, 0, none⟩ = some (.pointer (some ⟨B, 0, none⟩)) ∧ w'.cell? ⟨w.heap.size + 1, 2, none⟩ = some (.slice ac cn cc) ∧ w'.cell? ⟨w.heap.size + 1, 3, none⟩ = some (.slice aa an ca) ∧ w'.cell? ⟨w.heap.size + 1, 4, none⟩ = some (.slice ar rn cr) ∧ w'.cell? ⟨w.heap.size + 1, 5, none⟩ = some (.slice aw wn cw)) := fun w' k => by
    have e : (w.alloc (.cells #[.pointer (some ⟨B, 0, none⟩)] 60)).heap.size = w.heap.size + 1 := by simp
    have b0 : ((w.alloc (.cells #[.pointer (some ⟨B, 0, none⟩)] 60)).alloc (.cells #[.int .i64 s, .int .i64 q, .slice ac cn cc, .slice aa an ca, .slice ar rn cr, .slice aw wn cw] 70)).heap[w.heap.size]? = some (.cells #[.pointer (some ⟨B, 0, none⟩)] 60) := (Below.heap_alloc _ _ _ (by simp)).trans (heap_alloc_new w _)
    have b1 : ((w.alloc (.cells #[.pointer (some ⟨B, 0, none⟩)] 60)).alloc (.cells #[.int .i64 s, .int .i64 q, .slice ac cn cc, .slice aa an ca, .slice ar rn cr, .slice aw wn cw] 70)).heap[w.heap.size + 1]? = some (.cells #[.int .i64 s, .int .i64 q, .slice ac cn cc, .slice aa an ca, .slice ar rn cr, .slice aw wn cw] 70) := by have := heap_alloc_new (w.alloc (.cells #[.pointer (some ⟨B, 0, none⟩)] 60)) (.cells #[.int .i64 s, .int .i64 q, .slice ac cn cc, .slice aa an ca, .slice ar rn cr, .slice aw wn cw] 70); rw [e] at this; exact this
    have c0 := k.block w.heap.size (by simp; omega) (by omega) (.inr fun cur e => by rw [b0] at e; cases e)
    have c1 := k.block (w.heap.size + 1) (by simp) (by omega) (.inr fun cur e => by rw [b1] at e; cases e)
    refine ⟨?_, ?_, ?_, ?_, ?_⟩
    · rw [World.cell?_of_block (a := ⟨w.heap.size, 0, none⟩) c0, World.cell?_alloc_lt _ _ _ (by simp), World.cell?_alloc_new]; rfl
    · rw [World.cell?_of_block (a := ⟨w.heap.size + 1, 2, none⟩) c1, ← e, World.cell?_alloc_new]; rfl
    · rw [World.cell?_of_block (a := ⟨w.heap.size + 1, 3, none⟩) c1, ← e, World.cell?_alloc_new]; rfl
    · rw [World.cell?_of_block (a := ⟨w.heap.size + 1, 4, none⟩) c1, ← e, World.cell?_alloc_new]; rfl
    · rw [World.cell?_of_block (a := ⟨w.heap.size + 1, 5, none⟩) c1, ← e, World.cell?_alloc_new]; rfl
  have HW2 : Hid (Wrote B lo w ((w.alloc (.cells #[.pointer (some ⟨B, 0, none⟩)] 60)).alloc (.cells #[.int .i64 s, .int .i64 q, .slice ac cn cc, .slice aa an ca, .slice ar rn cr, .slice aw wn cw] 70))) := Wrote.of hal
  have hal2 : Below ((w.alloc (.cells #[.pointer (some ⟨B, 0, none⟩)] 60)).alloc (.cells #[.int .i64 s, .int .i64 q, .slice ac cn cc, .slice aa an ca, .slice ar rn cr, .slice aw wn cw] 70)).heap.size ((w.alloc (.cells #[.pointer (some ⟨B, 0, none⟩)] 60)).alloc (.cells #[.int .i64 s, .int .i64 q, .slice ac cn cc, .slice aa an ca, .slice ar rn cr, .slice aw wn cw] 70)) (((w.alloc (.cells #[.pointer (some ⟨B, 0, none⟩)] 60)).alloc (.cells #[.int .i64 s, .int .i64 q, .slice ac cn cc, .slice aa an ca, .slice ar rn cr, .slice aw wn cw] 70)).alloc (.cells #[.int .i64 s, .int .i64 q] 2)) := (Below.refl _ _).alloc (Nat.le_refl _) _
  have HX0 : Hid (Wrote B lo ((w.alloc (.cells #[.pointer (some ⟨B, 0, none⟩)] 60)).alloc (.cells #[.int .i64 s, .int .i64 q, .slice ac cn cc, .slice aa an ca, .slice ar rn cr, .slice aw wn cw] 70)) (((w.alloc (.cells #[.pointer (some ⟨B, 0, none⟩)] 60)).alloc (.cells #[.int .i64 s, .int .i64 q, .slice ac cn cc, .slice aa an ca, .slice ar rn cr, .slice aw wn cw] 70)).alloc (.cells #[.int .i64 s, .int .i64 q] 2))) := Wrote.of hal2
  have HN1 := hide (nums_any ((h.below hal).below hal2) _ [s, q] (sees_lit ((w.alloc (.cells #[.pointer (some ⟨B, 0, none⟩)] 60)).alloc (.cells #[.int .i64 s, .int .i64 q, .slice ac cn cc, .slice aa an ca, .slice ar rn cr, .slice aw wn cw] 70)) [s, q] (by simp)) (by simp) (i64_of fun x hx => by simp at hx; rcases hx with rfl | rfl <;> omega) (by have : sizeL [s, q] ≤ 18 := sizeL_le [s, q]; omega))
  simp only [List.length_cons, List.length_nil, Nat.reduceAdd, World.size_alloc] at HN1
  clear h hal hal2 hfs hfq
  go_enter Tryz.func56, Tryz.ntmps56
  go_wp2_with fail
  refine (unhide HN1).mono ?_
  rintro e y1 ⟨rfl, p1, r1⟩
  have HP1 : Hid (Wr y1 B lo (xs ++ putL [s, q])) := by exact p1
  have HX1 : Hid (Wrote B lo ((w.alloc (.cells #[.pointer (some ⟨B, 0, none⟩)] 60)).alloc (.cells #[.int .i64 s, .int .i64 q, .slice ac cn cc, .slice aa an ca, .slice ar rn cr, .slice aw wn cw] 70)) y1) := (unhide HX0).trans r1
  obtain ⟨c10, c12, c13, c14, c15⟩ := unhide HBX y1 (unhide HX1)
  clear p1 r1
  have HN2 := hide (wblob_any (unhide HP1) _ t.code (unhide HC y1 (unhide HWB _ (unhide HX1))) (by
    have l1 := putL_le [s, q]; have l2 := putL_le [(cn : Int)]; have l3 := putL_le [(an : Int)]; have l4 := putL_le t.args; have l5 := putL_le ((rn : Int) :: keyN t.reads)
    obtain ⟨e1, e2, e3, e4⟩ := unhide HE
    simp only [List.length_append, List.length_cons, List.length_nil, keyN_length] at l1 l2 l3 l4 l5 ⊢
    skip
    omega))
  rw [(unhide HE).1] at HN2
  go_wp2_with fail
  refine (unhide HN2).mono ?_
  rintro e y2 ⟨rfl, p2, r2⟩
  have HP2 : Hid (Wr y2 B lo (xs ++ putL [s, q] ++ (putL [(cn : Int)] ++ t.code))) := by exact p2
  have HX2 : Hid (Wrote B lo ((w.alloc (.cells #[.pointer (some ⟨B, 0, none⟩)] 60)).alloc (.cells #[.int .i64 s, .int .i64 q, .slice ac cn cc, .slice aa an ca, .slice ar rn cr, .slice aw wn cw] 70)) y2) := (unhide HX1).trans r2
  obtain ⟨c20, c22, c23, c24, c25⟩ := unhide HBX y2 (unhide HX2)
  clear p2 r2
  have hz2 : Below y2.heap.size y2 (y2.alloc (.cells #[.int .i64 (an : Int)] 2)) := (Below.refl _ _).alloc (Nat.le_refl _) _
  have HN3 := hide (nums_any ((unhide HP2).below hz2) _ [(an : Int)] (sees_lit y2 [(an : Int)] (by simp)) (by simp) (i64_of fun x hx => by simp at hx; subst hx; omega) (by
    have l1 := putL_le [s, q]; have l2 := putL_le [(cn : Int)]; have l3 := putL_le [(an : Int)]; have l4 := putL_le t.args; have l5 := putL_le ((rn : Int) :: keyN t.reads)
    obtain ⟨e1, e2, e3, e4⟩ := unhide HE
    simp only [List.length_append, List.length_cons, List.length_nil, keyN_length] at l1 l2 l3 l4 l5 ⊢
    have l6 := sizeL_le [(an : Int)]; simp only [List.length_cons, List.length_nil] at l6
    omega))
  simp only [List.length_cons, List.length_nil, Nat.reduceAdd] at HN3
  have HX2b : Hid (Wrote B lo ((w.alloc (.cells #[.pointer (some ⟨B, 0, none⟩)] 60)).alloc (.cells #[.int .i64 s, .int .i64 q, .slice ac cn cc, .slice aa an ca, .slice ar rn cr, .slice aw wn cw] 70)) (y2.alloc (.cells #[.int .i64 (an : Int)] 2))) := (unhide HX2).trans (Wrote.of hz2)
  clear hz2
  go_wp2_with fail
  refine (unhide HN3).mono ?_
  rintro e y3 ⟨rfl, p3, r3⟩
  have HP3 : Hid (Wr y3 B lo (xs ++ putL [s, q] ++ (putL [(cn : Int)] ++ t.code) ++ putL [(an : Int)])) := by exact p3
  have HX3 : Hid (Wrote B lo ((w.alloc (.cells #[.pointer (some ⟨B, 0, none⟩)] 60)).alloc (.cells #[.int .i64 s, .int .i64 q, .slice ac cn cc, .slice aa an ca, .slice ar rn cr, .slice aw wn cw] 70)) y3) := (unhide HX2b).trans r3
  obtain ⟨c30, c32, c33, c34, c35⟩ := unhide HBX y3 (unhide HX3)
  clear p3 r3
  have HN4 := hide (nums_any (unhide HP3) _ t.args (unhide HA y3 (unhide HWB _ (unhide HX3))) (by have := (unhide HE).2.1; omega) (i64_of (unhide HFT).args) (by
    have l1 := putL_le [s, q]; have l2 := putL_le [(cn : Int)]; have l3 := putL_le [(an : Int)]; have l4 := putL_le t.args; have l5 := putL_le ((rn : Int) :: keyN t.reads)
    obtain ⟨e1, e2, e3, e4⟩ := unhide HE
    simp only [List.length_append, List.length_cons, List.length_nil, keyN_length] at l1 l2 l3 l4 l5 ⊢
    have l6 := sizeL_le t.args
    omega))
  go_wp2_with fail
  refine (unhide HN4).mono ?_
  rintro e y4 ⟨rfl, p4, r4⟩
  have HP4 : Hid (Wr y4 B lo (xs ++ putL [s, q] ++ (putL [(cn : Int)] ++ t.code) ++ putL [(an : Int)] ++ putL t.args)) := by exact p4
  have HX4 : Hid (Wrote B lo ((w.alloc (.cells #[.pointer (some ⟨B, 0, none⟩)] 60)).alloc (.cells #[.int .i64 s, .int .i64 q, .slice ac cn cc, .slice aa an ca, .slice ar rn cr, .slice aw wn cw] 70)) y4) := (unhide HX3).trans r4
  obtain ⟨c40, c42, c43, c44, c45⟩ := unhide HBX y4 (unhide HX4)
  clear p4 r4
  have HN5 := hide (putKeys_any (N := N) (unhide HP4) _ t.reads hN (fun w' hb => unhide HR w' ((unhide HWB _ (unhide HX4)).trans hb)) (unhide HFT).reads (by have := (unhide HE).2.2.1; omega) (by
    have l1 := putL_le [s, q]; have l2 := putL_le [(cn : Int)]; have l3 := putL_le [(an : Int)]; have l4 := putL_le t.args; have l5 := putL_le ((rn : Int) :: keyN t.reads)
    obtain ⟨e1, e2, e3, e4⟩ := unhide HE
    simp only [List.length_append, List.length_cons, List.length_nil, keyN_length] at l1 l2 l3 l4 l5 ⊢
    skip
    omega))
  rw [(unhide HE).2.2.1] at HN5
  go_wp2_with fail
  refine (unhide HN5).mono ?_
  rintro e y5 ⟨rfl, p5, r5⟩
  have HP5 : Hid (Wr y5 B lo (xs ++ putL [s, q] ++ (putL [(cn : Int)] ++ t.code) ++ putL [(an : Int)] ++ putL t.args ++ putL ((rn : Int) :: keyN t.reads))) := by exact p5
  have HX5 : Hid (Wrote B lo ((w.alloc (.cells #[.pointer (some ⟨B, 0, none⟩)] 60)).alloc (.cells #[.int .i64 s, .int .i64 q, .slice ac cn cc, .slice aa an ca, .slice ar rn cr, .slice aw wn cw] 70)) y5) := (unhide HX4).trans r5
  obtain ⟨c50, c52, c53, c54, c55⟩ := unhide HBX y5 (unhide HX5)
  clear p5 r5
  have HN6 := hide (putKeys_any (N := N) (unhide HP5) _ t.writes hN (fun w' hb => unhide HW w' ((unhide HWB _ (unhide HX5)).trans hb)) (unhide HFT).writes (by have := (unhide HE).2.2.2; omega) (by
    have l1 := putL_le [s, q]; have l2 := putL_le [(cn : Int)]; have l3 := putL_le [(an : Int)]; have l4 := putL_le t.args; have l5 := putL_le ((rn : Int) :: keyN t.reads)
    obtain ⟨e1, e2, e3, e4⟩ := unhide HE
    simp only [List.length_append, List.length_cons, List.length_nil, keyN_length] at l1 l2 l3 l4 l5 ⊢
    skip
    omega))
  rw [(unhide HE).2.2.2] at HN6
  go_wp2_with fail
  refine (unhide HN6).mono ?_
  rintro e y6 ⟨rfl, p6, r6⟩
  have HF : Hid (Wr y6 B lo (xs ++ txnB t) ∧ Wrote B lo w y6) := ⟨by rw [unhide HTB]; simpa only [List.append_assoc] using p6, (unhide HW2).trans ((unhide HX5).trans r6)⟩
  clear p6 r6
  go_wp2_with fail
  go_end0
  exact ⟨rfl, unhide HF⟩
end Go.Proofs.YtggllgimlfchhabGreat
