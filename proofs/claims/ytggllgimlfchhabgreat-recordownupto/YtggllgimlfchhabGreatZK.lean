/- Record: there and back, in pure terms. -/
import Derived.Test.YtggllgimlfchhabGreatJU
namespace Go.Proofs.YtggllgimlfchhabGreat
open Go.RowKit
set_option maxRecDepth 100000

theorem tn_num (x : Int) (r : List Int) (h1 : -9223372036854775808 ≤ x) (h2 : x ≤ 9223372036854775807) : tn (numB x ++ r) = (x, 1 + wid (mag x), 0) := by
  obtain ⟨hm0, hm1⟩ := mag_bounds x h1 h2
  have hw8 := wid_le (mag x)
  have hlt := wid_lt (mag x) hm0 (by omega)
  have hll := lowL_length (wid (mag x)) (mag x)
  have hval := valL_low (wid (mag x)) (mag x) hm0 hlt
  have htk : (lowL (wid (mag x)) (mag x) ++ r).take (wid (mag x)) = lowL (wid (mag x)) (mag x) := by
    rw [List.take_append_of_le_length (by omega), List.take_of_length_le (by omega)]
  by_cases hx : x < 0
  · have hm : mag x = -x := by unfold mag; rw [if_pos hx]
    have hw1 : 1 ≤ wid (mag x) := by
      by_cases h0 : wid (mag x) = 0
      · rw [h0] at hlt; simp only [B256] at hlt; omega
      · omega
    have hnb : numB x ++ r = (2 * (wid (mag x) : Int) + 1) :: (lowL (wid (mag x)) (mag x) ++ r) := by unfold numB; rw [if_pos hx]; rfl
    rw [hnb]
    have hk : ((2 * (wid (mag x) : Int) + 1) / 2).toNat = wid (mag x) := by omega
    simp only [tn, hk, htk, hval]
    rw [if_neg (by omega), if_neg (by simp; omega), if_neg (by simp), if_pos (by omega), if_pos (by omega), hm]
    simp
  · have hm : mag x = x := by unfold mag; rw [if_neg hx]
    have hnb : numB x ++ r = (2 * (wid (mag x) : Int)) :: (lowL (wid (mag x)) (mag x) ++ r) := by unfold numB; rw [if_neg hx, Int.add_zero]; rfl
    rw [hnb]
    have hk : ((2 * (wid (mag x) : Int)) / 2).toNat = wid (mag x) := by omega
    simp only [tn, hk, htk, hval]
    rw [if_neg (by omega), if_neg (by simp; omega), if_neg (by simp), if_neg (by omega), if_pos (by omega), hm]

theorem tb_blob (d r : List Int) (hd : d.length ≤ 1099511627776) : tb (putL [(d.length : Int)] ++ d ++ r) = (d, sizeL [(d.length : Int)] + d.length, 0) := by
  have hp : putL [(d.length : Int)] = numB (d.length : Int) := by simp [putL]
  have hs : sizeL [(d.length : Int)] = 1 + wid (mag (d.length : Int)) := by simp [sizeL]
  rw [hp, hs, List.append_assoc]
  have ht := tn_num (d.length : Int) (d ++ r) (by omega) (by omega)
  unfold tb
  rw [ht]
  simp only
  rw [if_neg (by simp), if_neg (by omega)]
  have hnl := numB_length (d.length : Int)
  rw [if_neg (by simp [hnl]; omega)]
  rw [List.drop_append_of_le_length (by rw [hnl]; omega), List.drop_of_length_le (by rw [hnl]; omega)]
  simp

theorem putL_one (x : Int) : putL [x] = numB x := by simp [putL]
theorem putL_nil : putL [] = [] := rfl
theorem putL_cons (x : Int) (l : List Int) : putL (x :: l) = numB x ++ putL l := rfl
theorem num_put {x : Int} {r : List Int} {un : Bool} (h : -9223372036854775808 ≤ x ∧ x ≤ 9223372036854775807) : (RS.mk (numB x ++ r) 0 un).num = (x, ⟨r, 0, un⟩) := by
  have hl : (numB x).length = 1 + wid (mag x) := by have := putL_length [x]; rw [putL_one] at this; rw [this]; simp [sizeL]
  unfold RS.num
  simp only [if_true]
  rw [tn_num x r h.1 h.2]
  simp only
  rw [← hl, List.drop_left]
theorem blob_put {d r : List Int} {un : Bool} (hd : d.length ≤ 1099511627776) : (RS.mk (putL [(d.length : Int)] ++ d ++ r) 0 un).blob = (d, ⟨r, 0, un⟩) := by
  unfold RS.blob
  simp only [if_true]
  rw [tb_blob d r hd]
  simp only
  rw [← putL_length, ← List.length_append, List.drop_left]
theorem iter_put {α : Type} {take : RS → α × RS} {enc : α → List Int} {un : Bool} {l : List α} (h : ∀ a ∈ l, ∀ r, take ⟨enc a ++ r, 0, un⟩ = (a, ⟨r, 0, un⟩)) (r : List Int) : ∀ k, k ≤ l.length → RS.iter take k ⟨(l.map enc).flatten ++ r, 0, un⟩ = (l.take k, ⟨((l.drop k).map enc).flatten ++ r, 0, un⟩)
  | 0, _ => by simp [RS.iter]
  | k + 1, hk => by
    have ih := iter_put h r k (by omega)
    have hlt : k < l.length := by omega
    rw [iter_step (by rw [ih]), ih]
    have e : l.drop k = l[k] :: l.drop (k + 1) := List.drop_eq_getElem_cons hlt
    simp only
    rw [e]
    simp only [List.map_cons, List.flatten_cons, List.append_assoc]
    rw [h l[k] (List.getElem_mem hlt), List.take_add_one]
    simp [hlt]
theorem list_put {α : Type} {take : RS → α × RS} {enc : α → List Int} {un : Bool} {l : List α} (h : ∀ a ∈ l, ∀ r, take ⟨enc a ++ r, 0, un⟩ = (a, ⟨r, 0, un⟩)) (r : List Int) (hl : l.length ≤ 4096) : (RS.mk (numB (l.length : Int) ++ ((l.map enc).flatten ++ r)) 0 un).list take = (l, ⟨r, 0, un⟩) := by
  have hn := num_put (x := (l.length : Int)) (r := (l.map enc).flatten ++ r) (un := un) ⟨by omega, by omega⟩
  unfold RS.list RS.len
  rw [hn]
  simp only
  rw [decide_eq_true (by omega : (0 : Int) ≤ l.length ∧ (l.length : Int) ≤ 4096), must_true, Int.toNat_natCast, iter_put h r l.length (Nat.le_refl _)]
  simp
theorem nums_flat (l : List Int) : putL l = (l.map numB).flatten := by
  induction l with
  | nil => rfl
  | cons x r ih => simp [putL, ih]
theorem keys_flat (l : List (Int × Int)) : putL (keyN l) = (l.map fun k => numB k.1 ++ numB k.2).flatten := by
  induction l with
  | nil => rfl
  | cons x r ih => simp [putL, keyN, ih]
theorem w32_of {a : Int} (h : -2147483648 ≤ a ∧ a ≤ 2147483647) : w32 a = a := by unfold w32 wrap32; omega
theorem key_put {a b : Int} {r : List Int} {un : Bool} (ha : -2147483648 ≤ a ∧ a ≤ 2147483647) (hb : -9223372036854775808 ≤ b ∧ b ≤ 9223372036854775807) : (RS.mk (numB a ++ numB b ++ r) 0 un).key = ((a, b), ⟨r, 0, un⟩) := by
  have h1 := num_put (x := a) (r := numB b ++ r) (un := un) ⟨by omega, by omega⟩
  have h2 := num_put (x := b) (r := r) (un := un) hb
  rw [← List.append_assoc] at h1
  unfold RS.key RS.fit32
  rw [h1]
  simp only [w32_of ha, if_true, h2]
theorem txn_put {t : TxnD} {r : List Int} {un : Bool} (hf : FitT t) (hm : mayT t = true) : (RS.mk (txnB t ++ r) 0 un).txn = (t, ⟨r, 0, un⟩) := by
  obtain ⟨m1, m2, m3, m4⟩ := mayT_le hm
  have e : txnB t ++ r = numB t.ses ++ (numB t.req ++ (putL [(t.code.length : Int)] ++ t.code ++ (numB (t.args.length : Int) ++ ((t.args.map numB).flatten ++ (numB (t.reads.length : Int) ++ ((t.reads.map fun k => numB k.1 ++ numB k.2).flatten ++ (numB (t.writes.length : Int) ++ ((t.writes.map fun k => numB k.1 ++ numB k.2).flatten ++ r)))))))) := by
    unfold txnB
    simp only [putL_cons, putL_nil, keys_flat, nums_flat t.args, List.append_assoc, List.nil_append]
  rw [e]
  have k1 := fun r => num_put (x := t.ses) (r := r) (un := un) hf.ses
  have k2 := fun r => num_put (x := t.req) (r := r) (un := un) hf.req
  have k3 := fun r => blob_put (d := t.code) (r := r) (un := un) (by omega)
  have k4 := fun r => list_put (take := RS.num) (enc := numB) (un := un) (l := t.args) (fun a ha r => num_put (hf.args a ha)) r (by omega)
  have k5 := fun r => list_put (take := RS.key) (enc := fun k : Int × Int => numB k.1 ++ numB k.2) (un := un) (l := t.reads) (fun a ha r => key_put (hf.reads a ha).1 (hf.reads a ha).2) r (by omega)
  have k6 := fun r => list_put (take := RS.key) (enc := fun k : Int × Int => numB k.1 ++ numB k.2) (un := un) (l := t.writes) (fun a ha r => key_put (hf.writes a ha).1 (hf.writes a ha).2) r (by omega)
  unfold RS.txn
  rw [k1]
  simp only
  rw [k2]
  simp only
  rw [k3]
  simp only
  rw [k4]
  simp only
  rw [k5]
  simp only
  rw [k6]
theorem txns_flat (l : List TxnD) : txnsB l = (l.map txnB).flatten := rfl
theorem take_form {e : EntD} (hf : FitE e) (hm : mayE e = true) : takeE (entB e) = (e, 0) := by
  have hr : (RS.mk (entB e) 0 false).entry = (e, ⟨[], 0, false⟩) := by
    rcases mayE_kind hm with hk | hk
    · have he : e = dE := by
        unfold mayE at hm
        rw [if_pos hk] at hm
        exact of_decide_eq_true hm
      subst he
      rfl
    · obtain ⟨m1, m2⟩ := mayE_one hm hk
      have e1 : entB e = numB 1 ++ (numB e.frm ++ (numB e.num ++ (numB (e.txns.length : Int) ++ ((e.txns.map txnB).flatten ++ [])))) := by
        unfold entB
        rw [if_pos hk, hk]
        simp only [putL_cons, putL_nil, txns_flat, List.append_assoc, List.append_nil]
      rw [e1]
      have k1 := fun r => num_put (x := 1) (r := r) (un := false) (by decide)
      have k2 := fun r => num_put (x := e.frm) (r := r) (un := false) hf.frm
      have k3 := fun r => num_put (x := e.num) (r := r) (un := false) hf.num
      have k4 := list_put (take := RS.txn) (enc := txnB) (un := false) (l := e.txns) (fun a ha r => txn_put (hf.txns a ha) (m2 a ha)) [] (by omega)
      unfold RS.entry RS.kind
      rw [k1]
      simp only
      rw [decide_eq_true (by decide : (0 : Int) ≤ 1 ∧ (1 : Int) ≤ 1), must_true]
      simp only [if_true]
      rw [k2]
      simp only
      rw [k3]
      simp only
      rw [k4]
      obtain ⟨a, b, c, d⟩ := e
      simp only at hk
      rw [hk]
  unfold takeE
  rw [hr]
  simp only [hm]
  rfl
/-- No two entries that may be have one form. -/
theorem form_inj {x y : EntD} (hx : FitE x) (hy : FitE y) (mx : mayE x = true) (my : mayE y = true) (h : entB x = entB y) : x = y := by
  have h1 := take_form hx mx
  rw [h, take_form hy my] at h1
  exact (Prod.mk.inj h1).1.symm
end Go.Proofs.YtggllgimlfchhabGreat
