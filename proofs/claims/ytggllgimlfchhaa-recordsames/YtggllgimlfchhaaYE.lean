/- Record: entries, written. -/
import Derived.Test.YtggllgimlfchhaaYD
namespace Go.Proofs.Ytggllgimlfchhaa
open Go.RowKit
set_option maxRecDepth 100000

/-- A slice of transactions that lies below N. -/
def StTs (N : Nat) (w : World) (v : Value) (l : List TxnD) : Prop :=
  ∃ ao cap gb ob, ∃ cs : Nat → Value × Value × Value × Value, v = .slice ao l.length cap ∧ l.length ≤ cap ∧ l.length ≤ 9223372036854775807 ∧ (0 < l.length → ao = some ⟨gb, ob, none⟩) ∧
    ∀ t, t < l.length → ∀ w', Below N w w' → w'.cell? ⟨gb, ob + t * 6, none⟩ = some (.int .i64 (l.getD t dT).ses) ∧ w'.cell? ⟨gb, ob + t * 6 + 1, none⟩ = some (.int .i64 (l.getD t dT).req) ∧ w'.cell? ⟨gb, ob + t * 6 + 2, none⟩ = some (cs t).1 ∧ w'.cell? ⟨gb, ob + t * 6 + 3, none⟩ = some (cs t).2.1 ∧ w'.cell? ⟨gb, ob + t * 6 + 4, none⟩ = some (cs t).2.2.1 ∧ w'.cell? ⟨gb, ob + t * 6 + 5, none⟩ = some (cs t).2.2.2 ∧
      SeesT w' #[.int .i64 (l.getD t dT).ses, .int .i64 (l.getD t dT).req, (cs t).1, (cs t).2.1, (cs t).2.2.1, (cs t).2.2.2] (l.getD t dT)
theorem StTs.on {N : Nat} {w w1 : World} {v : Value} {l : List TxnD} (h : StTs N w v l) (hb : Below N w w1) : StTs N w1 v l := by
  obtain ⟨ao, cap, gb, ob, cs, h1, h2, h3, h4, h5⟩ := h
  exact ⟨ao, cap, gb, ob, cs, h1, h2, h3, h4, fun t ht w' hb' => h5 t ht w' (hb.trans hb')⟩
theorem choose_below {α : Type} {P : Nat → α → Prop} [Inhabited α] {n : Nat} (h : ∀ t, t < n → ∃ a, P t a) : ∃ f : Nat → α, ∀ t, t < n → P t (f t) := by
  classical
  refine ⟨fun t => if ht : t < n then Classical.choose (h t ht) else default, fun t ht => ?_⟩
  simp only [ht, dif_pos]
  exact Classical.choose_spec (h t ht)
instance : Inhabited Value := ⟨.slice none 0 0⟩
theorem StTs.of {w : World} {v : Value} {l : List TxnD} (h : SeesTs w v l) : StTs w.heap.size w v l := by
  obtain ⟨ao, cap, gb, ob, h1, h2, h3, h4, h5⟩ := h
  obtain ⟨cs, hcs⟩ := choose_below (α := Value × Value × Value × Value) (n := l.length) (P := fun t c => w.cell? ⟨gb, ob + t * 6, none⟩ = some (.int .i64 (l.getD t dT).ses) ∧ w.cell? ⟨gb, ob + t * 6 + 1, none⟩ = some (.int .i64 (l.getD t dT).req) ∧ w.cell? ⟨gb, ob + t * 6 + 2, none⟩ = some c.1 ∧ w.cell? ⟨gb, ob + t * 6 + 3, none⟩ = some c.2.1 ∧ w.cell? ⟨gb, ob + t * 6 + 4, none⟩ = some c.2.2.1 ∧ w.cell? ⟨gb, ob + t * 6 + 5, none⟩ = some c.2.2.2 ∧
      SeesT w #[.int .i64 (l.getD t dT).ses, .int .i64 (l.getD t dT).req, c.1, c.2.1, c.2.2.1, c.2.2.2] (l.getD t dT)) (fun t ht => by
    obtain ⟨cv, av, rv, wv, r⟩ := h5 t ht
    exact ⟨(cv, av, rv, wv), r⟩)
  refine ⟨ao, cap, gb, ob, cs, h1, h2, h3, h4, fun t ht w' hb => ?_⟩
  obtain ⟨q0, q1, q2, q3, q4, q5, qs⟩ := hcs t ht
  have c : ∀ o u, w.cell? ⟨gb, o, none⟩ = some u → w'.cell? ⟨gb, o, none⟩ = some u := fun o u h => (hb.cell (p := ⟨gb, o, none⟩) (World.block_lt_of_cell? w _ h)).trans h
  exact ⟨c _ _ q0, c _ _ q1, c _ _ q2, c _ _ q3, c _ _ q4, c _ _ q5, qs.below hb⟩
theorem StTs.sees {N : Nat} {w : World} {v : Value} {l : List TxnD} (h : StTs N w v l) : SeesTs w v l := by
  obtain ⟨ao, cap, gb, ob, cs, h1, h2, h3, h4, h5⟩ := h
  exact ⟨ao, cap, gb, ob, h1, h2, h3, h4, fun t ht => ⟨_, _, _, _, h5 t ht w (Below.refl _ _)⟩⟩

/-- Transactions' forms, one behind the other. -/
def txnsB (l : List TxnD) : List Int := (l.map txnB).flatten
theorem txnB_le {t : TxnD} (h : mayT t = true) : (txnB t).length ≤ 2000 := by
  obtain ⟨m1, m2, m3, m4⟩ := mayT_le h
  have l1 := putL_le [t.ses, t.req]; have l2 := putL_le [(t.code.length : Int)]; have l3 := putL_le [(t.args.length : Int)]; have l4 := putL_le t.args; have l5 := putL_le ((t.reads.length : Int) :: keyN t.reads); have l6 := putL_le ((t.writes.length : Int) :: keyN t.writes)
  unfold txnB
  simp only [List.length_append, List.length_cons, List.length_nil, keyN_length] at l1 l2 l3 l4 l5 l6 ⊢
  omega
theorem txnsB_le {l : List TxnD} (h : ∀ t ∈ l, mayT t = true) : (txnsB l).length ≤ 2000 * l.length := by
  induction l with
  | nil => simp [txnsB]
  | cons x r ih =>
    have h1 := txnB_le (h x (List.mem_cons_self ..))
    have h2 := ih (fun t ht => h t (List.mem_cons_of_mem _ ht))
    simp only [txnsB, List.map_cons, List.flatten_cons, List.length_append, List.length_cons] at h2 ⊢
    omega
theorem take_txns (l : List TxnD) (t : Nat) (ht : t < l.length) : txnsB (l.take (t + 1)) = txnsB (l.take t) ++ txnB (l.getD t dT) := by
  have e : l.take (t + 1) = l.take t ++ [l.getD t dT] := by
    rw [List.take_add_one]
    simp [List.getD, ht]
  rw [e]
  simp [txnsB]

set_option maxHeartbeats 3200000 in
theorem putTxns_any {w : World} {B lo N : Nat} {xs : List Int} (h : Wr w B lo xs) (v : Value) (l : List TxnD) (hN : N ≤ B) (hK : StTs N w v l) (hf : ∀ t ∈ l, FitT t) (hm : ∀ t ∈ l, mayT t = true) (hl : l.length ≤ 16) (hn : xs.length ≤ 17179869184) :
    Calls Try.prog 88 #[.pointer (some ⟨B, 0, none⟩), v, .func (.func 47) #[.agg #[.pointer (some ⟨B, 0, none⟩)]] #[]] w fun e w' => e = .returned (.tuple #[]) ∧ Wr w' B lo (xs ++ (putL [(l.length : Int)] ++ txnsB l)) ∧ Wrote B lo w w' := by
  have hlt := h.lt; have hle := h.le
  obtain ⟨ao, cap, gb, ob, cs, rfl, hcap, _, hao, hcl⟩ := hK
  have hal : Below w.heap.size w (w.alloc (.cells #[.int .i64 (l.length : Int)] 2)) := (Below.refl _ _).alloc (Nat.le_refl _) _
  have hs := sees_lit w [(l.length : Int)] (by simp)
  have hsz : sizeL [(l.length : Int)] ≤ 9 := sizeL_le [(l.length : Int)]
  have HN := hide (nums_any (h.below hal) _ [(l.length : Int)] hs (by simp) (i64_of fun x hx => by simp at hx; subst hx; omega) (by omega))
  have HW : Hid (Wrote B lo w _) := Wrote.of hal
  have HF := hide hf
  have HM := hide hm
  have HAO := hide hao
  have HCL := hide hcl
  have HWB : Hid (∀ w', Wrote B lo w w' → Below N w w') := fun w' k => k.below hN (by omega) (by omega)
  clear h hal hs hsz hf hm hlt hle hao hcl
  go_enter Try.func88, Try.ntmps88
  go_wp2_with fail
  simp only [List.length_cons, List.length_nil, Nat.reduceAdd] at HN
  refine (unhide HN).mono ?_
  rintro e w2 ⟨rfl, h1, h2⟩
  have HR : Hid (Wr w2 B lo (xs ++ (putL [(l.length : Int)] ++ txnsB (l.take 0))) ∧ Wrote B lo w w2) := ⟨by simpa [txnsB] using h1, (unhide HW).trans h2⟩
  clear h1 h2 HN
  go_wp2
  go_loopw [15] (fun c wr => ∃ t : Nat, t ≤ l.length ∧ c = .int .i64 t ∧ Wr wr B lo (xs ++ (putL [(l.length : Int)] ++ txnsB (l.take t))) ∧ Wrote B lo w wr) (fun c _ => l.length - (intOf c).toNat)
  case atStart => exact ⟨0, by omega, rfl, (unhide HR).1, (unhide HR).2⟩
  case round =>
    obtain ⟨t, ht, rfl, hw, hwr⟩ := hrel
    by_cases hlt : t < l.length
    · obtain rfl := unhide HAO (by omega)
      have hb := unhide HWB _ hwr
      obtain ⟨kh0, kh1, kh2, kh3, kh4, kh5, khs⟩ := unhide HCL t hlt wr hb
      have HST : Hid (∀ w', Below N wr w' → SeesT w' #[.int .i64 (l.getD t dT).ses, .int .i64 (l.getD t dT).req, (cs t).1, (cs t).2.1, (cs t).2.2.1, (cs t).2.2.2] (l.getD t dT)) := fun w' hb' => (unhide HCL t hlt w' (hb.trans hb')).2.2.2.2.2.2
      have hmem : l.getD t dT ∈ l := by
        have e : l.getD t dT = l[t] := by simp [List.getD, hlt]
        rw [e]; exact List.getElem_mem hlt
      have hft := unhide HF _ hmem
      have hmt := unhide HM _ hmem
      have htk := take_txns l t hlt
      obtain ⟨k1, kc1, k2, kc2, k3, kc3, k4, kc4, e1, e2, e3, e4⟩ := khs.shape
      rw [e1] at kh2 HST
      rw [e2] at kh3 HST
      rw [e3] at kh4 HST
      rw [e4] at kh5 HST
      clear e1 e2 e3 e4 khs
      obtain ⟨d, hd⟩ : ∃ d, l.getD t dT = d := ⟨_, rfl⟩
      rw [hd] at kh0 kh1 kh2 kh3 kh4 kh5 HST hft hmt htk
      obtain ⟨ds, es⟩ : ∃ n, d.ses = n := ⟨_, rfl⟩
      obtain ⟨dq, eq⟩ : ∃ n, d.req = n := ⟨_, rfl⟩
      obtain ⟨n1, e1⟩ : ∃ n, d.code.length = n := ⟨_, rfl⟩
      obtain ⟨n2, e2⟩ : ∃ n, d.args.length = n := ⟨_, rfl⟩
      obtain ⟨n3, e3⟩ : ∃ n, d.reads.length = n := ⟨_, rfl⟩
      obtain ⟨n4, e4⟩ : ∃ n, d.writes.length = n := ⟨_, rfl⟩
      rw [es] at kh0
      rw [eq] at kh1
      rw [e1] at kh2
      rw [e2] at kh3
      rw [e3] at kh4
      rw [e4] at kh5
      rw [es, eq, e1, e2, e3, e4] at HST
      clear es eq e1 e2 e3 e4 hd
      have hal : Below wr.heap.size wr (wr.alloc (.cells #[.int .i64 ds, .int .i64 dq, .slice k1 n1 kc1, .slice k2 n2 kc2, .slice k3 n3 kc3, .slice k4 n4 kc4] 35)) := (Below.refl _ _).alloc (Nat.le_refl _) _
      have hlen : (xs ++ (putL [(l.length : Int)] ++ txnsB (l.take t))).length ≤ 68719476736 := by
        have l1 := putL_le [(l.length : Int)]
        have l2 := txnsB_le (l := l.take t) (fun x hx => unhide HM x (List.mem_of_mem_take hx))
        simp only [List.length_append, List.length_cons, List.length_nil, List.length_take] at l1 l2 ⊢
        omega
      have HNs : Hid (N ≤ wr.heap.size) := by have := hw.lt; have := hw.le; show N ≤ _; omega
      have HC := hide (txn_any (N := N) (hw.below hal) _ d hN (fun w' hb' => unhide HST w' ((hal.mono (unhide HNs)).trans hb')) hft hmt hlen)
      have HW2 : Hid (Wrote B lo w _) := hwr.trans (Wrote.of hal)
      have HTK := hide htk
      clear hw hwr hb hal hlen hft hmt htk hmem HST
      go_wp2_with fail
      refine (unhide HC).mono ?_
      rintro e w3 ⟨rfl, h1, h2⟩
      have HR3 : Hid (Wr w3 B lo (xs ++ (putL [(l.length : Int)] ++ txnsB (l.take (t + 1)))) ∧ Wrote B lo w w3) := ⟨by rw [unhide HTK]; simpa only [List.append_assoc] using h1, (unhide HW2).trans h2⟩
      clear h1 h2 HC
      go_wp2
      go_roundw
      case rel => exact ⟨t + 1, by omega, by go_num, (unhide HR3).1, (unhide HR3).2⟩
      case measure => simp [intOf]; omega
    · have HE : Hid (Wr wr B lo (xs ++ (putL [(l.length : Int)] ++ txnsB l)) ∧ Wrote B lo w wr) := by
        rw [List.take_of_length_le (by omega)] at hw
        exact ⟨hw, hwr⟩
      clear hw hwr
      go_wp2
      go_end0
      exact ⟨rfl, unhide HE⟩
end Go.Proofs.Ytggllgimlfchhaa
