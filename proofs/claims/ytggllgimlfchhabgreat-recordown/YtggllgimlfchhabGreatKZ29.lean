/- Several texts as one. -/
import Derived.Test.YtggllgimlfchhabGreatKZ28

/- Record: entries, written. -/
namespace Go.Proofs.YtggllgimlfchhabGreat
open Go.RowKit
set_option maxRecDepth 100000

/-- A slice of transactions that lies below N. -/
def StTs (N : Nat) (w : World) (v : Value) (l : List TxnD) : Prop :=
  ∃ ao cap gb ob, ∃ cs : Nat → Value × Value × Value × Value, v = .slice ao l.length cap ∧ l.length ≤ cap ∧ l.length ≤ 9223372036854775807 ∧ (0 < l.length → ao = some ⟨gb, ob, none⟩) ∧
    ∀ t, t < l.length → ∀ w', Below N w w' → w'.cell? ⟨gb, ob + t * 6, none⟩ = some (.int .i64 (l.getD t dT).ses) ∧ w'.cell? ⟨gb, ob + t * 6 + 1, none⟩ = some (.int .i64 (l.getD t dT).req) ∧ w'.cell? ⟨gb, ob + t * 6 + 2, none⟩ = some (cs t).1 ∧ w'.cell? ⟨gb, ob + t * 6 + 3, none⟩ = some (cs t).2.1 ∧ w'.cell? ⟨gb, ob + t * 6 + 4, none⟩ = some (cs t).2.2.1 ∧ w'.cell? ⟨gb, ob + t * 6 + 5, none⟩ = some (cs t).2.2.2 ∧
      SeesT w' #[.int .i64 (l.getD t dT).ses, .int .i64 (l.getD t dT).req, (cs t).1, (cs t).2.1, (cs t).2.2.1, (cs t).2.2.2] (l.getD t dT)
theorem StTs.on {N : Nat} {w w1 : World} {v : Value} {l : List TxnD} (h : StTs N w v l) (hb : Below N w w1) : StTs N w1 v l := by
  obtain ⟨ao, cap, gb, ob, cs, h1, h2, h3, h4, h5⟩ := h
  exact ⟨ao, cap, gb, ob, cs, h1, h2, h3, h4, fun t ht w' hb' => h5 t ht w' (hb.trans hb')⟩
theorem choose_below {α : Type} {P : Nat → α → Prop} [Inhabited α] {n : Nat} (h : ∀ t, t < n → ∃ a, P t a) : ∃ f : Nat → α, ∀ t, t < n → P t (f t) := by
  classical
  refine ⟨fun t => if ht : t < n then Classical.choose (h t ht) else default, fun t ht => ?_⟩
  simp only [ht, dif_pos]
  exact Classical.choose_spec (h t ht)
instance : Inhabited Value := ⟨.slice none 0 0⟩
theorem StTs.of {w : World} {v : Value} {l : List TxnD} (h : SeesTs w v l) : StTs w.heap.size w v l := by
  obtain ⟨ao, cap, gb, ob, h1, h2, h3, h4, h5⟩ := h
  obtain ⟨cs, hcs⟩ := choose_below (α := Value × Value × Value × Value) (n := l.length) (P := fun t c => w.cell? ⟨gb, ob + t * 6, none⟩ = some (.int .i64 (l.getD t dT).ses) ∧ w.cell? ⟨gb, ob + t * 6 + 1, none⟩ = some (.int .i64 (l.getD t dT).req) ∧ w.cell? ⟨gb, ob + t * 6 + 2, none⟩ = some c.1 ∧ w.cell? ⟨gb, ob + t * 6 + 3, none⟩ = some c.2.1 ∧ w.cell? ⟨gb, ob + t * 6 + 4, none⟩ = some c.2.2.1 ∧ w.cell? ⟨gb, ob + t * 6 + 5, none⟩ = some c.2.2.2 ∧
      SeesT w #[.int .i64 (l.getD t dT).ses, .int .i64 (l.getD t dT).req, c.1, c.2.1, c.2.2.1, c.2.2.2] (l.getD t dT)) (fun t ht => by
    obtain ⟨cv, av, rv, wv, r⟩ := h5 t ht
    exact ⟨(cv, av, rv, wv), r⟩)
  refine ⟨ao, cap, gb, ob, cs, h1, h2, h3, h4, fun t ht w' hb => ?_⟩
  obtain ⟨q0, q1, q2, q3, q4, q5, qs⟩ := hcs t ht
  have c : ∀ o u, w.cell? ⟨gb, o, none⟩ = some u → w'.cell? ⟨gb, o, none⟩ = some u := fun o u h => (hb.cell (p := ⟨gb, o, none⟩) (World.block_lt_of_cell? w _ h)).trans h
  exact ⟨c _ _ q0, c _ _ q1, c _ _ q2, c _ _ q3, c _ _ q4, c _ _ q5, qs.below hb⟩
theorem StTs.sees {N : Nat} {w : World} {v : Value} {l : List TxnD} (h : StTs N w v l) : SeesTs w v l := by
  obtain ⟨ao, cap, gb, ob, cs, h1, h2, h3, h4, h5⟩ := h
  exact ⟨ao, cap, gb, ob, h1, h2, h3, h4, fun t ht => ⟨_, _, _, _, h5 t ht w (Below.refl _ _)⟩⟩

/-- Transactions' forms, one behind the other. -/
def txnsB (l : List TxnD) : List Int := (l.map txnB).flatten
theorem txnB_le {t : TxnD} (h : mayT t = true) : (txnB t).length ≤ 2000 := by
  obtain ⟨m1, m2, m3, m4⟩ := mayT_le h
  have l1 := putL_le [t.ses, t.req]; have l2 := putL_le [(t.code.length : Int)]; have l3 := putL_le [(t.args.length : Int)]; have l4 := putL_le t.args; have l5 := putL_le ((t.reads.length : Int) :: keyN t.reads); have l6 := putL_le ((t.writes.length : Int) :: keyN t.writes)
  unfold txnB
  simp only [List.length_append, List.length_cons, List.length_nil, keyN_length] at l1 l2 l3 l4 l5 l6 ⊢
  omega
theorem txnsB_le {l : List TxnD} (h : ∀ t ∈ l, mayT t = true) : (txnsB l).length ≤ 2000 * l.length := by
  induction l with
  | nil => simp [txnsB]
  | cons x r ih =>
    have h1 := txnB_le (h x (List.mem_cons_self ..))
    have h2 := ih (fun t ht => h t (List.mem_cons_of_mem _ ht))
    simp only [txnsB, List.map_cons, List.flatten_cons, List.length_append, List.length_cons] at h2 ⊢
    omega
theorem take_txns (l : List TxnD) (t : Nat) (ht : t < l.length) : txnsB (l.take (t + 1)) = txnsB (l.take t) ++ txnB (l.getD t dT) := by
  have e : l.take (t + 1) = l.take t ++ [l.getD t dT] := by
    rw [List.take_add_one]
    simp [List.getD, ht]
  rw [e]
  simp [txnsB]

set_option maxHeartbeats 3200000 in
theorem putTxns_any {w : World} {B lo N : Nat} {xs : List Int} (h : Wr w B lo xs) (v : Value) (l : List TxnD) (hN : N ≤ B) (hK : StTs N w v l) (hf : ∀ t ∈ l, FitT t) (hm : ∀ t ∈ l, mayT t = true) (hl : l.length ≤ 16) (hn : xs.length ≤ 17179869184) :
    Calls Tryz.prog 55 #[.pointer (some ⟨B, 0, none⟩), v, .func (.func 56) #[.agg #[.pointer (some ⟨B, 0, none⟩)]] #[]] w fun e w' => e = .returned (.tuple #[]) ∧ Wr w' B lo (xs ++ (putL [(l.length : Int)] ++ txnsB l)) ∧ Wrote B lo w w' := by
  have hlt := h.lt; have hle := h.le
  obtain ⟨ao, cap, gb, ob, cs, rfl, hcap, _, hao, hcl⟩ := hK
  have hal : Below w.heap.size w (w.alloc (.cells #[.int .i64 (l.length : Int)] 2)) := (Below.refl _ _).alloc (Nat.le_refl _) _
  have hs := sees_lit w [(l.length : Int)] (by simp)
  have hsz : sizeL [(l.length : Int)] ≤ 9 := sizeL_le [(l.length : Int)]
  have HN := hide (nums_any (h.below hal) _ [(l.length : Int)] hs (by simp) (i64_of fun x hx => by simp at hx; subst hx; omega) (by omega))
  have HW : Hid (Wrote B lo w _) := Wrote.of hal
  have HF := hide hf
  have HM := hide hm
  have HAO := hide hao
  have HCL := hide hcl
  have HWB : Hid (∀ w', Wrote B lo w w' → Below N w w') := fun w' k => k.below hN (by omega) (by omega)
  clear h hal hs hsz hf hm hlt hle hao hcl
  go_enter Tryz.func55, Tryz.ntmps55
  go_wp2_with fail
  simp only [List.length_cons, List.length_nil, Nat.reduceAdd] at HN
  refine (unhide HN).mono ?_
  rintro e w2 ⟨rfl, h1, h2⟩
  have HR : Hid (Wr w2 B lo (xs ++ (putL [(l.length : Int)] ++ txnsB (l.take 0))) ∧ Wrote B lo w w2) := ⟨by simpa [txnsB] using h1, (unhide HW).trans h2⟩
  clear h1 h2 HN
  go_wp2
  go_loopw [15] (fun c wr => ∃ t : Nat, t ≤ l.length ∧ c = .int .i64 t ∧ Wr wr B lo (xs ++ (putL [(l.length : Int)] ++ txnsB (l.take t))) ∧ Wrote B lo w wr) (fun c _ => l.length - (intOf c).toNat)
  case atStart => exact ⟨0, by omega, rfl, (unhide HR).1, (unhide HR).2⟩
  case round =>
    obtain ⟨t, ht, rfl, hw, hwr⟩ := hrel
    by_cases hlt : t < l.length
    · obtain rfl := unhide HAO (by omega)
      have hb := unhide HWB _ hwr
      obtain ⟨kh0, kh1, kh2, kh3, kh4, kh5, khs⟩ := unhide HCL t hlt wr hb
      have HST : Hid (∀ w', Below N wr w' → SeesT w' #[.int .i64 (l.getD t dT).ses, .int .i64 (l.getD t dT).req, (cs t).1, (cs t).2.1, (cs t).2.2.1, (cs t).2.2.2] (l.getD t dT)) := fun w' hb' => (unhide HCL t hlt w' (hb.trans hb')).2.2.2.2.2.2
      have hmem : l.getD t dT ∈ l := by
        have e : l.getD t dT = l[t] := by simp [List.getD, hlt]
        rw [e]; exact List.getElem_mem hlt
      have hft := unhide HF _ hmem
      have hmt := unhide HM _ hmem
      have htk := take_txns l t hlt
      obtain ⟨k1, kc1, k2, kc2, k3, kc3, k4, kc4, e1, e2, e3, e4⟩ := khs.shape
      rw [e1] at kh2 HST
      rw [e2] at kh3 HST
      rw [e3] at kh4 HST
      rw [e4] at kh5 HST
      clear e1 e2 e3 e4 khs
      obtain ⟨d, hd⟩ : ∃ d, l.getD t dT = d := ⟨_, rfl⟩
      rw [hd] at kh0 kh1 kh2 kh3 kh4 kh5 HST hft hmt htk
      obtain ⟨ds, es⟩ : ∃ n, d.ses = n := ⟨_, rfl⟩
      obtain ⟨dq, eq⟩ : ∃ n, d.req = n := ⟨_, rfl⟩
      obtain ⟨n1, e1⟩ : ∃ n, d.code.length = n := ⟨_, rfl⟩
      obtain ⟨n2, e2⟩ : ∃ n, d.args.length = n := ⟨_, rfl⟩
      obtain ⟨n3, e3⟩ : ∃ n, d.reads.length = n := ⟨_, rfl⟩
      obtain ⟨n4, e4⟩ : ∃ n, d.writes.length = n := ⟨_, rfl⟩
      rw [es] at kh0
      rw [eq] at kh1
      rw [e1] at kh2
      rw [e2] at kh3
      rw [e3] at kh4
      rw [e4] at kh5
      rw [es, eq, e1, e2, e3, e4] at HST
      clear es eq e1 e2 e3 e4 hd
      have hal : Below wr.heap.size wr (wr.alloc (.cells #[.int .i64 ds, .int .i64 dq, .slice k1 n1 kc1, .slice k2 n2 kc2, .slice k3 n3 kc3, .slice k4 n4 kc4] 70)) := (Below.refl _ _).alloc (Nat.le_refl _) _
      have hlen : (xs ++ (putL [(l.length : Int)] ++ txnsB (l.take t))).length ≤ 68719476736 := by
        have l1 := putL_le [(l.length : Int)]
        have l2 := txnsB_le (l := l.take t) (fun x hx => unhide HM x (List.mem_of_mem_take hx))
        simp only [List.length_append, List.length_cons, List.length_nil, List.length_take] at l1 l2 ⊢
        omega
      have HNs : Hid (N ≤ wr.heap.size) := by have := hw.lt; have := hw.le; show N ≤ _; omega
      have HC := hide (txn_any (N := N) (hw.below hal) _ d hN (fun w' hb' => unhide HST w' ((hal.mono (unhide HNs)).trans hb')) hft hmt hlen)
      have HW2 : Hid (Wrote B lo w _) := hwr.trans (Wrote.of hal)
      have HTK := hide htk
      clear hw hwr hb hal hlen hft hmt htk hmem HST
      go_wp2_with fail
      refine (unhide HC).mono ?_
      rintro e w3 ⟨rfl, h1, h2⟩
      have HR3 : Hid (Wr w3 B lo (xs ++ (putL [(l.length : Int)] ++ txnsB (l.take (t + 1)))) ∧ Wrote B lo w w3) := ⟨by rw [unhide HTK]; simpa only [List.append_assoc] using h1, (unhide HW2).trans h2⟩
      clear h1 h2 HC
      go_wp2
      go_roundw
      case rel => exact ⟨t + 1, by omega, by go_num, (unhide HR3).1, (unhide HR3).2⟩
      case measure => simp [intOf]; omega
    · have HE : Hid (Wr wr B lo (xs ++ (putL [(l.length : Int)] ++ txnsB l)) ∧ Wrote B lo w wr) := by
        rw [List.take_of_length_le (by omega)] at hw
        exact ⟨hw, hwr⟩
      clear hw hwr
      go_wp2
      go_end0
      exact ⟨rfl, unhide HE⟩
end Go.Proofs.YtggllgimlfchhabGreat

/- Record: Entry. -/
namespace Go.Proofs.YtggllgimlfchhabGreat
open Go.RowKit
set_option maxRecDepth 100000

structure FitE (e : EntD) : Prop where
  kind : -9223372036854775808 ≤ e.kind ∧ e.kind ≤ 9223372036854775807
  frm : -9223372036854775808 ≤ e.frm ∧ e.frm ≤ 9223372036854775807
  num : -9223372036854775808 ≤ e.num ∧ e.num ≤ 9223372036854775807
  txns : ∀ t ∈ e.txns, FitT t
  args : ∀ t ∈ e.txns, t.args.length ≤ 9223372036854775807
theorem FitE.ok {e : EntD} (h : FitE e) : OkTs e.txns := fun t ht => ⟨(h.txns t ht).code, h.args t ht⟩
/-- An entry's form. -/
def entB (e : EntD) : List Int := putL [e.kind] ++ (if e.kind = 1 then putL [e.frm, e.num] ++ (putL [(e.txns.length : Int)] ++ txnsB e.txns) else [])
theorem mayE_one {e : EntD} (h : mayE e = true) (hk : e.kind = 1) : e.txns.length ≤ 16 ∧ ∀ t ∈ e.txns, mayT t = true := by
  unfold mayE at h
  rw [if_neg (by rw [hk]; decide), if_pos hk] at h
  simp only [Bool.and_eq_true, decide_eq_true_eq] at h
  exact ⟨h.1.2, fun t ht => List.all_eq_true.1 h.2 t ht⟩
theorem mayE_kind {e : EntD} (h : mayE e = true) : e.kind = 0 ∨ e.kind = 1 := by
  unfold mayE at h
  by_cases h0 : e.kind = 0
  · exact .inl h0
  · rw [if_neg h0] at h
    by_cases h1 : e.kind = 1
    · exact .inr h1
    · rw [if_neg h1] at h; cases h
theorem entB_le {e : EntD} (h : mayE e = true) : (entB e).length ≤ 40000 := by
  have l1 := putL_le [e.kind]; have l2 := putL_le [e.frm, e.num]; have l3 := putL_le [(e.txns.length : Int)]
  unfold entB
  by_cases hk : e.kind = 1
  · obtain ⟨m1, m2⟩ := mayE_one h hk
    have l4 := txnsB_le m2
    rw [if_pos hk]
    simp only [List.length_append, List.length_cons, List.length_nil] at l1 l2 l3 l4 ⊢
    omega
  · rw [if_neg hk]
    simp only [List.length_append, List.length_cons, List.length_nil] at l1 ⊢
    omega

set_option maxHeartbeats 1600000 in
theorem entry_zero {w : World} {B lo N : Nat} {xs : List Int} (h : Wr w B lo xs) (f n : Int) (ta : Option Addr) (tl tc : Nat) (hN : N ≤ B) (hn : xs.length ≤ 4294967296) :
    Calls Tryz.prog 24 #[.agg #[.pointer (some ⟨B, 0, none⟩)], .agg #[.int .i64 0, .int .i64 f, .int .i64 n, .slice ta tl tc]] w fun e w' => e = .returned (.tuple #[]) ∧ Wr w' B lo (xs ++ putL [0]) ∧ Wrote B lo w w' := by
  have hlt := h.lt; have hle := h.le
  have hal : Below w.heap.size w ((w.alloc (.cells #[.pointer (some ⟨B, 0, none⟩)] 60)).alloc (.cells #[.int .i64 0, .int .i64 f, .int .i64 n, .slice ta tl tc] 24)) := ((Below.refl _ _).alloc (Nat.le_refl _) _).alloc (by simp) _
  have HBX : Hid (∀ w' : World, Wrote B lo ((w.alloc (.cells #[.pointer (some ⟨B, 0, none⟩)] 60)).alloc (.cells #[.int .i64 0, .int .i64 f, .int .i64 n, .slice ta tl tc] 24)) w' → w'.cell? ⟨w.heap.size, 0, none⟩ = some (.pointer (some ⟨B, 0, none⟩)) ∧ w'.cell? ⟨w.heap.size + 1, 0, none⟩ = some (.int .i64 0) ∧ w'.cell? ⟨w.heap.size + 1, 1, none⟩ = some (.int .i64 f) ∧ w'.cell? ⟨w.heap.size + 1, 2, none⟩ = some (.int .i64 n) ∧ w'.cell? ⟨w.heap.size + 1, 3, none⟩ = some (.slice ta tl tc)) := fun w' k => by
    have e : (w.alloc (.cells #[.pointer (some ⟨B, 0, none⟩)] 60)).heap.size = w.heap.size + 1 := by simp
    have b0 : ((w.alloc (.cells #[.pointer (some ⟨B, 0, none⟩)] 60)).alloc (.cells #[.int .i64 0, .int .i64 f, .int .i64 n, .slice ta tl tc] 24)).heap[w.heap.size]? = some (.cells #[.pointer (some ⟨B, 0, none⟩)] 60) := (Below.heap_alloc _ _ _ (by simp)).trans (heap_alloc_new w _)
    have b1 : ((w.alloc (.cells #[.pointer (some ⟨B, 0, none⟩)] 60)).alloc (.cells #[.int .i64 0, .int .i64 f, .int .i64 n, .slice ta tl tc] 24)).heap[w.heap.size + 1]? = some (.cells #[.int .i64 0, .int .i64 f, .int .i64 n, .slice ta tl tc] 24) := by have := heap_alloc_new (w.alloc (.cells #[.pointer (some ⟨B, 0, none⟩)] 60)) (.cells #[.int .i64 0, .int .i64 f, .int .i64 n, .slice ta tl tc] 24); rw [e] at this; exact this
    have c0 := k.block w.heap.size (by simp; omega) (by omega) (.inr fun cur e => by rw [b0] at e; cases e)
    have c1 := k.block (w.heap.size + 1) (by simp) (by omega) (.inr fun cur e => by rw [b1] at e; cases e)
    refine ⟨?_, ?_, ?_, ?_, ?_⟩
    · rw [World.cell?_of_block (a := ⟨w.heap.size, 0, none⟩) c0, World.cell?_alloc_lt _ _ _ (by simp), World.cell?_alloc_new]; rfl
    · rw [World.cell?_of_block (a := ⟨w.heap.size + 1, 0, none⟩) c1, ← e, World.cell?_alloc_new]; rfl
    · rw [World.cell?_of_block (a := ⟨w.heap.size + 1, 1, none⟩) c1, ← e, World.cell?_alloc_new]; rfl
    · rw [World.cell?_of_block (a := ⟨w.heap.size + 1, 2, none⟩) c1, ← e, World.cell?_alloc_new]; rfl
    · rw [World.cell?_of_block (a := ⟨w.heap.size + 1, 3, none⟩) c1, ← e, World.cell?_alloc_new]; rfl
  have HW2 : Hid (Wrote B lo w ((w.alloc (.cells #[.pointer (some ⟨B, 0, none⟩)] 60)).alloc (.cells #[.int .i64 0, .int .i64 f, .int .i64 n, .slice ta tl tc] 24))) := Wrote.of hal
  have hal2 : Below ((w.alloc (.cells #[.pointer (some ⟨B, 0, none⟩)] 60)).alloc (.cells #[.int .i64 0, .int .i64 f, .int .i64 n, .slice ta tl tc] 24)).heap.size ((w.alloc (.cells #[.pointer (some ⟨B, 0, none⟩)] 60)).alloc (.cells #[.int .i64 0, .int .i64 f, .int .i64 n, .slice ta tl tc] 24)) (((w.alloc (.cells #[.pointer (some ⟨B, 0, none⟩)] 60)).alloc (.cells #[.int .i64 0, .int .i64 f, .int .i64 n, .slice ta tl tc] 24)).alloc (.cells #[.int .i64 0] 2)) := (Below.refl _ _).alloc (Nat.le_refl _) _
  have HX0 : Hid (Wrote B lo ((w.alloc (.cells #[.pointer (some ⟨B, 0, none⟩)] 60)).alloc (.cells #[.int .i64 0, .int .i64 f, .int .i64 n, .slice ta tl tc] 24)) (((w.alloc (.cells #[.pointer (some ⟨B, 0, none⟩)] 60)).alloc (.cells #[.int .i64 0, .int .i64 f, .int .i64 n, .slice ta tl tc] 24)).alloc (.cells #[.int .i64 0] 2))) := Wrote.of hal2
  have HN1 := hide (nums_any ((h.below hal).below hal2) _ [0] (sees_lit ((w.alloc (.cells #[.pointer (some ⟨B, 0, none⟩)] 60)).alloc (.cells #[.int .i64 0, .int .i64 f, .int .i64 n, .slice ta tl tc] 24)) [0] (by simp)) (by simp) (i64_of fun x hx => by simp at hx; omega) (by have : sizeL [(0 : Int)] ≤ 9 := sizeL_le [0]; omega))
  simp only [List.length_cons, List.length_nil, Nat.reduceAdd, World.size_alloc] at HN1
  have HWB : Hid (∀ w', Wrote B lo ((w.alloc (.cells #[.pointer (some ⟨B, 0, none⟩)] 60)).alloc (.cells #[.int .i64 0, .int .i64 f, .int .i64 n, .slice ta tl tc] 24)) w' → Below N w w') := fun w' k => ((Wrote.of (B := B) (lo := lo) hal).trans k).below hN (by omega) (by omega)
  clear h hal hal2 HWB
  go_enter Tryz.func24, Tryz.ntmps24
  go_wp2_with fail
  refine (unhide HN1).mono ?_
  rintro e y1 ⟨rfl, p1, r1⟩
  have HX1 := hide ((unhide HX0).trans r1)
  obtain ⟨c0, c1, c2, c3, c4⟩ := unhide HBX y1 (unhide HX1)
  have HF : Hid (Wr y1 B lo (xs ++ putL [0]) ∧ Wrote B lo w y1) := ⟨p1, (unhide HW2).trans (unhide HX1)⟩
  clear p1 r1
  go_wp2_with fail
  go_end0
  exact ⟨rfl, unhide HF⟩

set_option maxHeartbeats 1600000 in
theorem entry_one {w : World} {B lo N : Nat} {xs : List Int} (h : Wr w B lo xs) (f n : Int) (ta : Option Addr) (tl tc : Nat) (l : List TxnD) (hN : N ≤ B) (hn : xs.length ≤ 4294967296) (hK : StTs N w (.slice ta tl tc) l) (hf : ∀ t ∈ l, FitT t) (hm : ∀ t ∈ l, mayT t = true) (hl : l.length ≤ 16)
    (hff : -9223372036854775808 ≤ f ∧ f ≤ 9223372036854775807) (hnn : -9223372036854775808 ≤ n ∧ n ≤ 9223372036854775807) :
    Calls Tryz.prog 24 #[.agg #[.pointer (some ⟨B, 0, none⟩)], .agg #[.int .i64 1, .int .i64 f, .int .i64 n, .slice ta tl tc]] w fun e w' => e = .returned (.tuple #[]) ∧ Wr w' B lo (xs ++ (putL [1] ++ (putL [f, n] ++ (putL [(l.length : Int)] ++ txnsB l)))) ∧ Wrote B lo w w' := by
  have hlt := h.lt; have hle := h.le
  have hal : Below w.heap.size w ((w.alloc (.cells #[.pointer (some ⟨B, 0, none⟩)] 60)).alloc (.cells #[.int .i64 1, .int .i64 f, .int .i64 n, .slice ta tl tc] 24)) := ((Below.refl _ _).alloc (Nat.le_refl _) _).alloc (by simp) _
  have HBX : Hid (∀ w' : World, Wrote B lo ((w.alloc (.cells #[.pointer (some ⟨B, 0, none⟩)] 60)).alloc (.cells #[.int .i64 1, .int .i64 f, .int .i64 n, .slice ta tl tc] 24)) w' → w'.cell? ⟨w.heap.size, 0, none⟩ = some (.pointer (some ⟨B, 0, none⟩)) ∧ w'.cell? ⟨w.heap.size + 1, 0, none⟩ = some (.int .i64 1) ∧ w'.cell? ⟨w.heap.size + 1, 1, none⟩ = some (.int .i64 f) ∧ w'.cell? ⟨w.heap.size + 1, 2, none⟩ = some (.int .i64 n) ∧ w'.cell? ⟨w.heap.size + 1, 3, none⟩ = some (.slice ta tl tc)) := fun w' k => by
    have e : (w.alloc (.cells #[.pointer (some ⟨B, 0, none⟩)] 60)).heap.size = w.heap.size + 1 := by simp
    have b0 : ((w.alloc (.cells #[.pointer (some ⟨B, 0, none⟩)] 60)).alloc (.cells #[.int .i64 1, .int .i64 f, .int .i64 n, .slice ta tl tc] 24)).heap[w.heap.size]? = some (.cells #[.pointer (some ⟨B, 0, none⟩)] 60) := (Below.heap_alloc _ _ _ (by simp)).trans (heap_alloc_new w _)
    have b1 : ((w.alloc (.cells #[.pointer (some ⟨B, 0, none⟩)] 60)).alloc (.cells #[.int .i64 1, .int .i64 f, .int .i64 n, .slice ta tl tc] 24)).heap[w.heap.size + 1]? = some (.cells #[.int .i64 1, .int .i64 f, .int .i64 n, .slice ta tl tc] 24) := by have := heap_alloc_new (w.alloc (.cells #[.pointer (some ⟨B, 0, none⟩)] 60)) (.cells #[.int .i64 1, .int .i64 f, .int .i64 n, .slice ta tl tc] 24); rw [e] at this; exact this
    have c0 := k.block w.heap.size (by simp; omega) (by omega) (.inr fun cur e => by rw [b0] at e; cases e)
    have c1 := k.block (w.heap.size + 1) (by simp) (by omega) (.inr fun cur e => by rw [b1] at e; cases e)
    refine ⟨?_, ?_, ?_, ?_, ?_⟩
    · rw [World.cell?_of_block (a := ⟨w.heap.size, 0, none⟩) c0, World.cell?_alloc_lt _ _ _ (by simp), World.cell?_alloc_new]; rfl
    · rw [World.cell?_of_block (a := ⟨w.heap.size + 1, 0, none⟩) c1, ← e, World.cell?_alloc_new]; rfl
    · rw [World.cell?_of_block (a := ⟨w.heap.size + 1, 1, none⟩) c1, ← e, World.cell?_alloc_new]; rfl
    · rw [World.cell?_of_block (a := ⟨w.heap.size + 1, 2, none⟩) c1, ← e, World.cell?_alloc_new]; rfl
    · rw [World.cell?_of_block (a := ⟨w.heap.size + 1, 3, none⟩) c1, ← e, World.cell?_alloc_new]; rfl
  have HW2 : Hid (Wrote B lo w ((w.alloc (.cells #[.pointer (some ⟨B, 0, none⟩)] 60)).alloc (.cells #[.int .i64 1, .int .i64 f, .int .i64 n, .slice ta tl tc] 24))) := Wrote.of hal
  have hal2 : Below ((w.alloc (.cells #[.pointer (some ⟨B, 0, none⟩)] 60)).alloc (.cells #[.int .i64 1, .int .i64 f, .int .i64 n, .slice ta tl tc] 24)).heap.size ((w.alloc (.cells #[.pointer (some ⟨B, 0, none⟩)] 60)).alloc (.cells #[.int .i64 1, .int .i64 f, .int .i64 n, .slice ta tl tc] 24)) (((w.alloc (.cells #[.pointer (some ⟨B, 0, none⟩)] 60)).alloc (.cells #[.int .i64 1, .int .i64 f, .int .i64 n, .slice ta tl tc] 24)).alloc (.cells #[.int .i64 1] 2)) := (Below.refl _ _).alloc (Nat.le_refl _) _
  have HX0 : Hid (Wrote B lo ((w.alloc (.cells #[.pointer (some ⟨B, 0, none⟩)] 60)).alloc (.cells #[.int .i64 1, .int .i64 f, .int .i64 n, .slice ta tl tc] 24)) (((w.alloc (.cells #[.pointer (some ⟨B, 0, none⟩)] 60)).alloc (.cells #[.int .i64 1, .int .i64 f, .int .i64 n, .slice ta tl tc] 24)).alloc (.cells #[.int .i64 1] 2))) := Wrote.of hal2
  have HN1 := hide (nums_any ((h.below hal).below hal2) _ [1] (sees_lit ((w.alloc (.cells #[.pointer (some ⟨B, 0, none⟩)] 60)).alloc (.cells #[.int .i64 1, .int .i64 f, .int .i64 n, .slice ta tl tc] 24)) [1] (by simp)) (by simp) (i64_of fun x hx => by simp at hx; omega) (by have : sizeL [(1 : Int)] ≤ 9 := sizeL_le [1]; omega))
  simp only [List.length_cons, List.length_nil, Nat.reduceAdd, World.size_alloc] at HN1
  have HWB : Hid (∀ w', Wrote B lo ((w.alloc (.cells #[.pointer (some ⟨B, 0, none⟩)] 60)).alloc (.cells #[.int .i64 1, .int .i64 f, .int .i64 n, .slice ta tl tc] 24)) w' → Below N w w') := fun w' k => ((Wrote.of (B := B) (lo := lo) hal).trans k).below hN (by omega) (by omega)
  have HK := hide hK
  have HFT := hide hf
  have HM := hide hm
  clear h hal hal2 hK hf hm
  go_enter Tryz.func24, Tryz.ntmps24
  go_wp2_with fail
  refine (unhide HN1).mono ?_
  rintro e y1 ⟨rfl, p1, r1⟩
  have HX1 := hide ((unhide HX0).trans r1)
  obtain ⟨c0, c1, c2, c3, c4⟩ := unhide HBX y1 (unhide HX1)
  have hz : Below y1.heap.size y1 (y1.alloc (.cells #[.int .i64 f, .int .i64 n] 2)) := (Below.refl _ _).alloc (Nat.le_refl _) _
  have HN2 := hide (nums_any (p1.below hz) _ [f, n] (sees_lit y1 [f, n] (by simp)) (by simp) (i64_of fun x hx => by simp at hx; rcases hx with rfl | rfl <;> omega) (by
    have l1 := putL_le [(1 : Int)]; have l2 := sizeL_le [f, n]
    simp only [List.length_append, List.length_cons, List.length_nil] at l1 l2 ⊢
    omega))
  simp only [List.length_cons, List.length_nil, Nat.reduceAdd] at HN2
  have HX1b := hide ((unhide HX1).trans (Wrote.of hz))
  clear p1 r1 hz HN1
  go_wp2_with fail
  refine (unhide HN2).mono ?_
  rintro e y2 ⟨rfl, p2, r2⟩
  have HX2 := hide ((unhide HX1b).trans r2)
  obtain ⟨g0, g1, g2, g3, g4⟩ := unhide HBX y2 (unhide HX2)
  have HN3 := hide (putTxns_any (N := N) p2 _ l hN ((unhide HK).on (unhide HWB _ (unhide HX2))) (unhide HFT) (unhide HM) hl (by
    have l1 := putL_le [(1 : Int)]; have l2 := putL_le [f, n]
    simp only [List.length_append, List.length_cons, List.length_nil] at l1 l2 ⊢
    omega))
  clear p2 r2 HN2
  go_wp2_with fail
  refine (unhide HN3).mono ?_
  rintro e y3 ⟨rfl, p3, r3⟩
  have HF : Hid (Wr y3 B lo (xs ++ (putL [1] ++ (putL [f, n] ++ (putL [(l.length : Int)] ++ txnsB l)))) ∧ Wrote B lo w y3) := ⟨by simpa only [List.append_assoc] using p3, (unhide HW2).trans ((unhide HX2).trans r3)⟩
  clear p3 r3
  go_wp2_with fail
  go_end0
  exact ⟨rfl, unhide HF⟩

set_option maxHeartbeats 3200000 in
/-- Entry. -/
theorem Entry_any (N : Nat) (cs : Array Value) (e : EntD) (w : World) (hN : N ≤ w.heap.size) (hE : ∃ tv, cs = #[.int .i64 e.kind, .int .i64 e.frm, .int .i64 e.num, tv] ∧ StTs N w tv e.txns) (hf : FitE e) :
    Calls Tryz.prog 7 #[.agg cs] w fun r w' => ∃ x, r = .returned (.tuple #[x, .int .i64 (if mayE e then 0 else 40)]) ∧ w'.ownsRow w.heap.size 5 1 x (if mayE e then entB e else []).length (ints .u8 (if mayE e then entB e else [])) ∧ Below w.heap.size w w' := by
  obtain ⟨k, f, n, txns⟩ := e
  obtain ⟨tv, rfl, hT⟩ := hE
  simp only at hT
  have HT := hide hT
  have HFE := hide hf
  obtain ⟨ta, tc, _, _, _, rfl, _⟩ := hT
  have hal : Below w.heap.size w (w.alloc (.cells #[.int .i64 k, .int .i64 f, .int .i64 n, .slice ta txns.length tc] 24)) := (Below.refl _ _).alloc (Nat.le_refl _) _
  have HM := hide (entryMayBe_any _ ⟨k, f, n, txns⟩ (w.alloc (.cells #[.int .i64 k, .int .i64 f, .int .i64 n, .slice ta txns.length tc] 24)) ⟨_, rfl, ((unhide HT).on (hal.mono hN)).sees⟩ hf.ok)
  simp only at HM
  have HB := hide hal
  have HBX : Hid (∀ w', Below (w.heap.size + 1) (w.alloc (.cells #[.int .i64 k, .int .i64 f, .int .i64 n, .slice ta txns.length tc] 24)) w' → w'.cell? ⟨w.heap.size, 0, none⟩ = some (.int .i64 k) ∧ w'.cell? ⟨w.heap.size, 1, none⟩ = some (.int .i64 f) ∧ w'.cell? ⟨w.heap.size, 2, none⟩ = some (.int .i64 n) ∧ w'.cell? ⟨w.heap.size, 3, none⟩ = some (.slice ta txns.length tc)) := fun w' hb => by
    refine ⟨?_, ?_, ?_, ?_⟩
    · rw [hb.cell (p := ⟨w.heap.size, 0, none⟩) (Nat.lt_succ_self _), World.cell?_alloc_new]; rfl
    · rw [hb.cell (p := ⟨w.heap.size, 1, none⟩) (Nat.lt_succ_self _), World.cell?_alloc_new]; rfl
    · rw [hb.cell (p := ⟨w.heap.size, 2, none⟩) (Nat.lt_succ_self _), World.cell?_alloc_new]; rfl
    · rw [hb.cell (p := ⟨w.heap.size, 3, none⟩) (Nat.lt_succ_self _), World.cell?_alloc_new]; rfl
  clear hal hf
  go_enter Tryz.func7, Tryz.ntmps7
  go_wp2_with fail
  refine (unhide HM).mono ?_
  rintro r w2 ⟨rfl, hb2⟩
  have HB2 : Hid (Below w.heap.size w w2) := (unhide HB).trans (hb2.mono (by simp))
  have HB1 : Hid (Below (w.heap.size + 1) (w.alloc (.cells #[.int .i64 k, .int .i64 f, .int .i64 n, .slice ta txns.length tc] 24)) w2) := hb2.mono (by simp)
  obtain ⟨c0, c1, c2, c3⟩ := unhide HBX w2 (unhide HB1)
  clear hb2 HM
  cases hmy : mayE ⟨k, f, n, txns⟩ with
  | false =>
    go_wp2_with fail
    all_goals (go_ret2; exact ⟨.slice none 0 0, rfl, World.ownsRow_nil _ _ _ _, unhide HB2⟩)
  | true =>
    have hz1 : Below w2.heap.size w2 ((w2.alloc (.cells #[.slice none 0 0] 58)).alloc (.cells #[.pointer (some ⟨w2.heap.size, 0, none⟩)] 60)) := ((Below.refl _ _).alloc (Nat.le_refl _) _).alloc (by simp) _
    have hWr : Wr ((w2.alloc (.cells #[.slice none 0 0] 58)).alloc (.cells #[.pointer (some ⟨w2.heap.size, 0, none⟩)] 60)) w2.heap.size (w2.heap.size + 1) [] := by
      have e : ((w2.alloc (.cells #[.slice none 0 0] 58)).alloc (.cells #[.pointer (some ⟨w2.heap.size, 0, none⟩)] 60)).heap[w2.heap.size]? = some (.cells #[.slice none 0 0] 58) := (Below.heap_alloc _ _ _ (by simp)).trans (heap_alloc_new w2 _)
      refine ⟨⟨.slice none 0 0, ?_, World.ownsRow_nil _ _ _ _⟩, fun o => ?_, by omega, by simp⟩
      · rw [World.cell?_alloc_lt _ _ _ (by simp), World.cell?_alloc_new]; rfl
      · rw [World.frozen?_alloc_past _ _ _ (by simp), World.frozen?_alloc_at _ _ _ _ rfl]
    have hsz2 := (unhide HB2).size
    have HC : Hid (Calls Tryz.prog 24 #[.agg #[.pointer (some ⟨w2.heap.size, 0, none⟩)], .agg #[.int .i64 k, .int .i64 f, .int .i64 n, .slice ta txns.length tc]] ((w2.alloc (.cells #[.slice none 0 0] 58)).alloc (.cells #[.pointer (some ⟨w2.heap.size, 0, none⟩)] 60)) fun e w' => e = .returned (.tuple #[]) ∧ Wr w' w2.heap.size (w2.heap.size + 1) (entB ⟨k, f, n, txns⟩) ∧ Wrote w2.heap.size (w2.heap.size + 1) ((w2.alloc (.cells #[.slice none 0 0] 58)).alloc (.cells #[.pointer (some ⟨w2.heap.size, 0, none⟩)] 60)) w') := by
      have hfe := unhide HFE
      rcases mayE_kind hmy with hk | hk
      · simp only at hk
        subst hk
        exact (entry_zero (N := 0) hWr f n ta txns.length tc (by omega) (by simp)).mono fun e w' h => ⟨h.1, by simpa [entB] using h.2.1, h.2.2⟩
      · simp only at hk
        subst hk
        obtain ⟨m1, m2⟩ := mayE_one hmy rfl
        exact (entry_one (N := N) hWr f n ta txns.length tc txns (by omega) (by simp) ((unhide HT).on (((unhide HB2).mono hN).trans (hz1.mono (by omega)))) hfe.txns m2 m1 hfe.frm hfe.num).mono fun e w' h => ⟨h.1, by simpa [entB] using h.2.1, h.2.2⟩
    have HLe := hide (entB_le hmy)
    have HZ := hide hz1
    have HSZ := hide hsz2
    have HBW : Hid (∀ w', Wrote w2.heap.size (w2.heap.size + 1) ((w2.alloc (.cells #[.slice none 0 0] 58)).alloc (.cells #[.pointer (some ⟨w2.heap.size, 0, none⟩)] 60)) w' → w'.cell? ⟨w2.heap.size + 1, 0, none⟩ = some (.pointer (some ⟨w2.heap.size, 0, none⟩)) ∧ Below w.heap.size w w') := fun w' k => by
      have e : (w2.alloc (.cells #[.slice none 0 0] 58)).heap.size = w2.heap.size + 1 := by simp
      have b1 : ((w2.alloc (.cells #[.slice none 0 0] 58)).alloc (.cells #[.pointer (some ⟨w2.heap.size, 0, none⟩)] 60)).heap[w2.heap.size + 1]? = some (.cells #[.pointer (some ⟨w2.heap.size, 0, none⟩)] 60) := by have := heap_alloc_new (w2.alloc (.cells #[.slice none 0 0] 58)) (.cells #[.pointer (some ⟨w2.heap.size, 0, none⟩)] 60); rw [e] at this; exact this
      have c1 := k.block (w2.heap.size + 1) (by simp) (by omega) (.inr fun cur e => by rw [b1] at e; cases e)
      refine ⟨?_, ?_⟩
      · rw [World.cell?_of_block (a := ⟨w2.heap.size + 1, 0, none⟩) c1, ← e, World.cell?_alloc_new]; rfl
      · exact ((unhide HB2).trans (hz1.mono hsz2)).trans (k.below (by omega) (by omega) (by simp only [World.size_alloc]; omega))
    obtain ⟨b0, b1, b2, b3⟩ := unhide HBX _ ((unhide HB1).trans (hz1.mono (by have := (unhide HB1).size; simp only [World.size_alloc] at this; omega)))
    clear hWr hz1 hsz2
    go_wp2_with fail
    refine (unhide HC).mono ?_
    rintro r w3 ⟨rfl, hw3, hwr3⟩
    obtain ⟨d0, hbl⟩ := unhide HBW w3 hwr3
    obtain ⟨xv, hxc, hxo⟩ := hw3.own
    obtain ⟨ax, cx, rfl⟩ := own_shape hxo
    have hlen := unhide HLe
    have HF : Hid (w3.ownsRow w.heap.size 5 1 (.slice ax (entB ⟨k, f, n, txns⟩).length cx) (entB ⟨k, f, n, txns⟩).length (ints .u8 (entB ⟨k, f, n, txns⟩)) ∧ Below w.heap.size w w3) := ⟨own_mono hxo (by have := unhide HSZ; omega), hbl⟩
    obtain ⟨L, hL⟩ : ∃ L, (entB ⟨k, f, n, txns⟩).length = L := ⟨_, rfl⟩
    have HL := hide hL
    rw [hL] at hxc hlen
    rw [hL] at HF
    clear hw3 hwr3 hbl hxo HC hL
    go_wp2_with fail
    go_ret2
    exact ⟨.slice ax L cx, rfl, by simpa only [if_true, unhide HL] using (unhide HF).1, (unhide HF).2⟩
end Go.Proofs.YtggllgimlfchhabGreat
