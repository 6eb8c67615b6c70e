/- Several texts as one. -/
import Derived.Test.YtggllgimlfchhabGreatKD
import Derived.Test.YtggllgimlfchhabGreatKR

/- Record: there and back, in pure terms. -/
namespace Go.Proofs.YtggllgimlfchhabGreat
open Go.RowKit
set_option maxRecDepth 100000

theorem tn_num (x : Int) (r : List Int) (h1 : -9223372036854775808 ≤ x) (h2 : x ≤ 9223372036854775807) : tn (numB x ++ r) = (x, 1 + wid (mag x), 0) := by
  obtain ⟨hm0, hm1⟩ := mag_bounds x h1 h2
  have hw8 := wid_le (mag x)
  have hlt := wid_lt (mag x) hm0 (by omega)
  have hll := lowL_length (wid (mag x)) (mag x)
  have hval := valL_low (wid (mag x)) (mag x) hm0 hlt
  have htk : (lowL (wid (mag x)) (mag x) ++ r).take (wid (mag x)) = lowL (wid (mag x)) (mag x) := by
    rw [List.take_append_of_le_length (by omega), List.take_of_length_le (by omega)]
  by_cases hx : x < 0
  · have hm : mag x = -x := by unfold mag; rw [if_pos hx]
    have hw1 : 1 ≤ wid (mag x) := by
      by_cases h0 : wid (mag x) = 0
      · rw [h0] at hlt; simp only [B256] at hlt; omega
      · omega
    have hnb : numB x ++ r = (2 * (wid (mag x) : Int) + 1) :: (lowL (wid (mag x)) (mag x) ++ r) := by unfold numB; rw [if_pos hx]; rfl
    rw [hnb]
    have hk : ((2 * (wid (mag x) : Int) + 1) / 2).toNat = wid (mag x) := by omega
    simp only [tn, hk, htk, hval]
    rw [if_neg (by omega), if_neg (by simp; omega), if_neg (by simp), if_pos (by omega), if_pos (by omega), hm]
    simp
  · have hm : mag x = x := by unfold mag; rw [if_neg hx]
    have hnb : numB x ++ r = (2 * (wid (mag x) : Int)) :: (lowL (wid (mag x)) (mag x) ++ r) := by unfold numB; rw [if_neg hx, Int.add_zero]; rfl
    rw [hnb]
    have hk : ((2 * (wid (mag x) : Int)) / 2).toNat = wid (mag x) := by omega
    simp only [tn, hk, htk, hval]
    rw [if_neg (by omega), if_neg (by simp; omega), if_neg (by simp), if_neg (by omega), if_pos (by omega), hm]

theorem tb_blob (d r : List Int) (hd : d.length ≤ 1099511627776) : tb (putL [(d.length : Int)] ++ d ++ r) = (d, sizeL [(d.length : Int)] + d.length, 0) := by
  have hp : putL [(d.length : Int)] = numB (d.length : Int) := by simp [putL]
  have hs : sizeL [(d.length : Int)] = 1 + wid (mag (d.length : Int)) := by simp [sizeL]
  rw [hp, hs, List.append_assoc]
  have ht := tn_num (d.length : Int) (d ++ r) (by omega) (by omega)
  unfold tb
  rw [ht]
  simp only
  rw [if_neg (by simp), if_neg (by omega)]
  have hnl := numB_length (d.length : Int)
  rw [if_neg (by simp [hnl]; omega)]
  rw [List.drop_append_of_le_length (by rw [hnl]; omega), List.drop_of_length_le (by rw [hnl]; omega)]
  simp

theorem putL_one (x : Int) : putL [x] = numB x := by simp [putL]
theorem putL_nil : putL [] = [] := rfl
theorem putL_cons (x : Int) (l : List Int) : putL (x :: l) = numB x ++ putL l := rfl
theorem num_put {x : Int} {r : List Int} {un : Bool} (h : -9223372036854775808 ≤ x ∧ x ≤ 9223372036854775807) : (RS.mk (numB x ++ r) 0 un).num = (x, ⟨r, 0, un⟩) := by
  have hl : (numB x).length = 1 + wid (mag x) := by have := putL_length [x]; rw [putL_one] at this; rw [this]; simp [sizeL]
  unfold RS.num
  simp only [if_true]
  rw [tn_num x r h.1 h.2]
  simp only
  rw [← hl, List.drop_left]
theorem blob_put {d r : List Int} {un : Bool} (hd : d.length ≤ 1099511627776) : (RS.mk (putL [(d.length : Int)] ++ d ++ r) 0 un).blob = (d, ⟨r, 0, un⟩) := by
  unfold RS.blob
  simp only [if_true]
  rw [tb_blob d r hd]
  simp only
  rw [← putL_length, ← List.length_append, List.drop_left]
theorem iter_put {α : Type} {take : RS → α × RS} {enc : α → List Int} {un : Bool} {l : List α} (h : ∀ a ∈ l, ∀ r, take ⟨enc a ++ r, 0, un⟩ = (a, ⟨r, 0, un⟩)) (r : List Int) : ∀ k, k ≤ l.length → RS.iter take k ⟨(l.map enc).flatten ++ r, 0, un⟩ = (l.take k, ⟨((l.drop k).map enc).flatten ++ r, 0, un⟩)
  | 0, _ => by simp [RS.iter]
  | k + 1, hk => by
    have ih := iter_put h r k (by omega)
    have hlt : k < l.length := by omega
    rw [iter_step (by rw [ih]), ih]
    have e : l.drop k = l[k] :: l.drop (k + 1) := List.drop_eq_getElem_cons hlt
    simp only
    rw [e]
    simp only [List.map_cons, List.flatten_cons, List.append_assoc]
    rw [h l[k] (List.getElem_mem hlt), List.take_add_one]
    simp [hlt]
theorem list_put {α : Type} {take : RS → α × RS} {enc : α → List Int} {un : Bool} {l : List α} (h : ∀ a ∈ l, ∀ r, take ⟨enc a ++ r, 0, un⟩ = (a, ⟨r, 0, un⟩)) (r : List Int) (hl : l.length ≤ 4096) : (RS.mk (numB (l.length : Int) ++ ((l.map enc).flatten ++ r)) 0 un).list take = (l, ⟨r, 0, un⟩) := by
  have hn := num_put (x := (l.length : Int)) (r := (l.map enc).flatten ++ r) (un := un) ⟨by omega, by omega⟩
  unfold RS.list RS.len
  rw [hn]
  simp only
  rw [decide_eq_true (by omega : (0 : Int) ≤ l.length ∧ (l.length : Int) ≤ 4096), must_true, Int.toNat_natCast, iter_put h r l.length (Nat.le_refl _)]
  simp
theorem nums_flat (l : List Int) : putL l = (l.map numB).flatten := by
  induction l with
  | nil => rfl
  | cons x r ih => simp [putL, ih]
theorem keys_flat (l : List (Int × Int)) : putL (keyN l) = (l.map fun k => numB k.1 ++ numB k.2).flatten := by
  induction l with
  | nil => rfl
  | cons x r ih => simp [putL, keyN, ih]
theorem w32_of {a : Int} (h : -2147483648 ≤ a ∧ a ≤ 2147483647) : w32 a = a := by unfold w32 wrap32; omega
theorem key_put {a b : Int} {r : List Int} {un : Bool} (ha : -2147483648 ≤ a ∧ a ≤ 2147483647) (hb : -9223372036854775808 ≤ b ∧ b ≤ 9223372036854775807) : (RS.mk (numB a ++ numB b ++ r) 0 un).key = ((a, b), ⟨r, 0, un⟩) := by
  have h1 := num_put (x := a) (r := numB b ++ r) (un := un) ⟨by omega, by omega⟩
  have h2 := num_put (x := b) (r := r) (un := un) hb
  rw [← List.append_assoc] at h1
  unfold RS.key RS.fit32
  rw [h1]
  simp only [w32_of ha, if_true, h2]
theorem txn_put {t : TxnD} {r : List Int} {un : Bool} (hf : FitT t) (hm : mayT t = true) : (RS.mk (txnB t ++ r) 0 un).txn = (t, ⟨r, 0, un⟩) := by
  obtain ⟨m1, m2, m3, m4⟩ := mayT_le hm
  have e : txnB t ++ r = numB t.ses ++ (numB t.req ++ (putL [(t.code.length : Int)] ++ t.code ++ (numB (t.args.length : Int) ++ ((t.args.map numB).flatten ++ (numB (t.reads.length : Int) ++ ((t.reads.map fun k => numB k.1 ++ numB k.2).flatten ++ (numB (t.writes.length : Int) ++ ((t.writes.map fun k => numB k.1 ++ numB k.2).flatten ++ r)))))))) := by
    unfold txnB
    simp only [putL_cons, putL_nil, keys_flat, nums_flat t.args, List.append_assoc, List.nil_append]
  rw [e]
  have k1 := fun r => num_put (x := t.ses) (r := r) (un := un) hf.ses
  have k2 := fun r => num_put (x := t.req) (r := r) (un := un) hf.req
  have k3 := fun r => blob_put (d := t.code) (r := r) (un := un) (by omega)
  have k4 := fun r => list_put (take := RS.num) (enc := numB) (un := un) (l := t.args) (fun a ha r => num_put (hf.args a ha)) r (by omega)
  have k5 := fun r => list_put (take := RS.key) (enc := fun k : Int × Int => numB k.1 ++ numB k.2) (un := un) (l := t.reads) (fun a ha r => key_put (hf.reads a ha).1 (hf.reads a ha).2) r (by omega)
  have k6 := fun r => list_put (take := RS.key) (enc := fun k : Int × Int => numB k.1 ++ numB k.2) (un := un) (l := t.writes) (fun a ha r => key_put (hf.writes a ha).1 (hf.writes a ha).2) r (by omega)
  unfold RS.txn
  rw [k1]
  simp only
  rw [k2]
  simp only
  rw [k3]
  simp only
  rw [k4]
  simp only
  rw [k5]
  simp only
  rw [k6]
theorem txns_flat (l : List TxnD) : txnsB l = (l.map txnB).flatten := rfl
theorem take_form {e : EntD} (hf : FitE e) (hm : mayE e = true) : takeE (entB e) = (e, 0) := by
  have hr : (RS.mk (entB e) 0 false).entry = (e, ⟨[], 0, false⟩) := by
    rcases mayE_kind hm with hk | hk
    · have he : e = dE := by
        unfold mayE at hm
        rw [if_pos hk] at hm
        exact of_decide_eq_true hm
      subst he
      rfl
    · obtain ⟨m1, m2⟩ := mayE_one hm hk
      have e1 : entB e = numB 1 ++ (numB e.frm ++ (numB e.num ++ (numB (e.txns.length : Int) ++ ((e.txns.map txnB).flatten ++ [])))) := by
        unfold entB
        rw [if_pos hk, hk]
        simp only [putL_cons, putL_nil, txns_flat, List.append_assoc, List.append_nil]
      rw [e1]
      have k1 := fun r => num_put (x := 1) (r := r) (un := false) (by decide)
      have k2 := fun r => num_put (x := e.frm) (r := r) (un := false) hf.frm
      have k3 := fun r => num_put (x := e.num) (r := r) (un := false) hf.num
      have k4 := list_put (take := RS.txn) (enc := txnB) (un := false) (l := e.txns) (fun a ha r => txn_put (hf.txns a ha) (m2 a ha)) [] (by omega)
      unfold RS.entry RS.kind
      rw [k1]
      simp only
      rw [decide_eq_true (by decide : (0 : Int) ≤ 1 ∧ (1 : Int) ≤ 1), must_true]
      simp only [if_true]
      rw [k2]
      simp only
      rw [k3]
      simp only
      rw [k4]
      obtain ⟨a, b, c, d⟩ := e
      simp only at hk
      rw [hk]
  unfold takeE
  rw [hr]
  simp only [hm]
  rfl
/-- No two entries that may be have one form. -/
theorem form_inj {x y : EntD} (hx : FitE x) (hy : FitE y) (mx : mayE x = true) (my : mayE y = true) (h : entB x = entB y) : x = y := by
  have h1 := take_form hx mx
  rw [h, take_form hy my] at h1
  exact (Prod.mk.inj h1).1.symm
end Go.Proofs.YtggllgimlfchhabGreat

/- Sealed bytes: whole, cut, changed: the mathematics. -/
namespace Go.Proofs.YtggllgimlfchhabGreat
open Go.RowKit

theorem mul_back (a : Int) (ha : 0 ≤ a) (ha2 : a < 18446744073709551616) : ((a * 1099511628211) % 18446744073709551616 * (14886173955864302971 % 18446744073709551616)) % 18446744073709551616 = a := by
  rw [← Int.mul_emod, Int.mul_assoc, show (1099511628211 : Int) * 14886173955864302971 = 1 + 18446744073709551616 * 887285111055 from by decide]
  omega

theorem mul_inj (a b : Int) (ha : 0 ≤ a) (ha2 : a < 18446744073709551616) (hb : 0 ≤ b) (hb2 : b < 18446744073709551616) (h : (a * 1099511628211) % 18446744073709551616 = (b * 1099511628211) % 18446744073709551616) : a = b := by
  have h1 := mul_back a ha ha2
  rw [h, mul_back b hb hb2] at h1
  exact h1.symm

theorem getD_right (a b : List Int) (k : Nat) (h : a.length ≤ k) : (a ++ b).getD k 0 = b.getD (k - a.length) 0 := by
  simp [List.getD, List.getElem?_append_right h]
theorem getD_left (a b : List Int) (k : Nat) (h : k < a.length) : (a ++ b).getD k 0 = a.getD k 0 := by
  simp [List.getD, List.getElem?_append_left h]

theorem xor_bounds (h x : Int) (h0 : 0 ≤ h) (h1 : h ≤ 18446744073709551615) (x0 : 0 ≤ x) (x1 : x ≤ 18446744073709551615) : bits .xor .u64 h x = ((h.toNat ^^^ x.toNat : Nat) : Int) ∧ ((h.toNat ^^^ x.toNat : Nat) : Int) < 18446744073709551616 :=
  ⟨u64_xor h x h0 (by omega) x0 (by omega), Int.ofNat_lt.2 (Nat.xor_lt_two_pow (n := 64) (by omega) (by omega))⟩

theorem fstep_inj (h h' x x' : Int) (h0 : 0 ≤ h) (h1 : h ≤ 18446744073709551615) (h0' : 0 ≤ h') (h1' : h' ≤ 18446744073709551615) (x0 : 0 ≤ x) (x1 : x ≤ 255) (x0' : 0 ≤ x') (x1' : x' ≤ 255)
    (e : fstep h x = fstep h' x') : h.toNat ^^^ x.toNat = h'.toNat ^^^ x'.toNat := by
  unfold fstep at e
  rw [IntKind.wrap_u64, IntKind.wrap_u64] at e
  obtain ⟨e1, b1⟩ := xor_bounds h x h0 h1 x0 (by omega)
  obtain ⟨e2, b2⟩ := xor_bounds h' x' h0' h1' x0' (by omega)
  rw [e1, e2] at e
  exact Int.ofNat.inj (mul_inj _ _ (Int.natCast_nonneg _) b1 (Int.natCast_nonneg _) b2 e)

theorem nat_xor_cancel_left (a b c : Nat) (h : a ^^^ b = a ^^^ c) : b = c := by
  have := congrArg (a ^^^ ·) h
  simpa [← Nat.xor_assoc] using this

theorem nat_xor_cancel_right (a b c : Nat) (h : b ^^^ a = c ^^^ a) : b = c :=
  nat_xor_cancel_left a b c (by rw [Nat.xor_comm a b, Nat.xor_comm a c]; exact h)

theorem fstep_x (h x x' : Int) (h0 : 0 ≤ h) (h1 : h ≤ 18446744073709551615) (x0 : 0 ≤ x) (x1 : x ≤ 255) (x0' : 0 ≤ x') (x1' : x' ≤ 255) (e : fstep h x = fstep h x') : x = x' := by
  have := nat_xor_cancel_left _ _ _ (fstep_inj h h x x' h0 h1 h0 h1 x0 x1 x0' x1' e)
  omega

theorem fstep_h (h h' x : Int) (h0 : 0 ≤ h) (h1 : h ≤ 18446744073709551615) (h0' : 0 ≤ h') (h1' : h' ≤ 18446744073709551615) (x0 : 0 ≤ x) (x1 : x ≤ 255) (e : fstep h x = fstep h' x) : h = h' := by
  have := nat_xor_cancel_right _ _ _ (fstep_inj h h' x x h0 h1 h0' h1' x0 x1 x0 x1 e)
  omega

theorem chkF_h (l : List Int) (hl : Byt l) (h h' : Int) (h0 : 0 ≤ h) (h1 : h ≤ 18446744073709551615) (h0' : 0 ≤ h') (h1' : h' ≤ 18446744073709551615) (e : chkF h l = chkF h' l) : h = h' := by
  induction l generalizing h h' with
  | nil => exact e
  | cons x r ih =>
    have hx := hl x (List.mem_cons_self ..)
    have b1 := fstep_bounds h x
    have b2 := fstep_bounds h' x
    exact fstep_h h h' x h0 h1 h0' h1' hx.1 hx.2 (ih (fun z hz => hl z (List.mem_cons_of_mem _ hz)) _ _ b1.1 b1.2 b2.1 b2.2 e)

theorem chkF_set (l : List Int) (hl : Byt l) (h : Int) (h0 : 0 ≤ h) (h1 : h ≤ 18446744073709551615) (q : Nat) (hq : q < l.length) (y : Int) (y0 : 0 ≤ y) (y1 : y ≤ 255) (hy : y ≠ l.getD q 0) : chkF h (l.set q y) ≠ chkF h l := by
  induction l generalizing h q with
  | nil => simp at hq
  | cons x r ih =>
    have hx := hl x (List.mem_cons_self ..)
    have hr : Byt r := fun z hz => hl z (List.mem_cons_of_mem _ hz)
    have b1 := fstep_bounds h x
    have b2 := fstep_bounds h y
    cases q with
    | zero =>
      intro e
      simp only [List.set_cons_zero, chkF] at e
      have := fstep_x h y x h0 h1 y0 y1 hx.1 hx.2 (chkF_h r hr _ _ b2.1 b2.2 b1.1 b1.2 e)
      simp at hy
      exact hy this
    | succ q =>
      simp only [List.set_cons_succ, chkF]
      exact ih hr _ b1.1 b1.2 q (by simpa using hq) (by simpa using hy)

theorem sealB_parts (zs : List Int) : sealB zs = numB (zs.length : Int) ++ (zs ++ lowL 8 (chkF c0 zs)) := by
  simp [sealB, putL]

theorem sealB_length (zs : List Int) : (sealB zs).length = 1 + wid (mag (zs.length : Int)) + (zs.length + 8) := by
  rw [sealB_parts, List.length_append, List.length_append, lowL_length, numB_length]

/-- What stands behind a length of at most 1048576. -/
theorem tu_num (n : Nat) (hn : n ≤ 1048576) (r : List Int) : tu (numB (n : Int) ++ r) =
    if (r.length : Int) < n + 8 then ([], 0, 10)
    else if valL ((r.drop n).take 8) ≠ chkF c0 (r.take n) then ([], 0, 12)
    else (r.take n, 1 + wid (mag (n : Int)) + n + 8, 0) := by
  have ht := tn_num (n : Int) r (by omega) (by omega)
  have hl := numB_length (n : Int)
  unfold tu
  rw [ht]
  simp only
  have hd : (numB (n : Int) ++ r).drop (1 + wid (mag (n : Int))) = r := by
    rw [List.drop_append_of_le_length (by omega), List.drop_of_length_le (by omega)]; rfl
  rw [← List.drop_drop, hd, Int.toNat_natCast, if_neg (by simp), if_neg (by omega), if_neg (by omega)]
  have hlen : ((numB (n : Int) ++ r).length : Int) - ((1 + wid (mag (n : Int)) : Nat) : Int) = r.length := by
    rw [List.length_append, hl]; omega
  rw [hlen]

theorem tu_whole (zs r : List Int) (hz : zs.length ≤ 1048576) : tu (sealB zs ++ r) = (zs, (sealB zs).length, 0) := by
  obtain ⟨hc1, hc2⟩ := chkF_bounds c0 zs c0_bounds.1 c0_bounds.2
  have hll := lowL_length 8 (chkF c0 zs)
  rw [sealB_length, sealB_parts, List.append_assoc, tu_num _ hz]
  have h1 : (zs ++ lowL 8 (chkF c0 zs) ++ r).take zs.length = zs := by simp
  have h2 : ((zs ++ lowL 8 (chkF c0 zs) ++ r).drop zs.length).take 8 = lowL 8 (chkF c0 zs) := by
    rw [List.append_assoc, List.drop_append_of_le_length (Nat.le_refl _), List.drop_length, List.nil_append, List.take_append_of_le_length (by omega), List.take_of_length_le (by omega)]
  rw [h1, h2, valL_low 8 _ hc1 (by rw [B256_8]; omega)]
  rw [if_neg (by simp only [List.length_append, hll]; omega), if_neg (by simp)]
  simp only [Prod.mk.injEq, true_and, and_true]
  omega

theorem tu_cut (zs : List Int) (hz : zs.length ≤ 1048576) (m : Nat) (hm : m < (sealB zs).length) : (tu ((sealB zs).take m)).2.2 = 10 := by
  have hsl := sealB_length zs
  have hnl := numB_length (zs.length : Int)
  have hll := lowL_length 8 (chkF c0 zs)
  rw [sealB_parts]
  by_cases hh : 1 + wid (mag (zs.length : Int)) ≤ m
  · rw [List.take_append, List.take_of_length_le (by omega), tu_num _ hz, if_pos]
    rw [List.length_take, List.length_append, hll]
    omega
  · rw [List.take_append_of_le_length (by omega)]
    cases m with
    | zero => simp [tu, tn]
    | succ m =>
      have hw8 := wid_le (mag (zs.length : Int))
      have h10 : tn ((numB (zs.length : Int)).take (m + 1)) = (0, 0, 10) := by
        unfold numB
        rw [if_neg (by omega), Int.add_zero]
        simp only [List.take_succ_cons, tn]
        rw [if_neg (by omega), if_pos]
        rw [List.length_take, lowL_length]
        omega
      unfold tu
      rw [h10]
      simp

theorem tu_changed (zs : List Int) (hz : zs.length ≤ 1048576) (hb : Byt zs) (q : Nat) (hq : q < zs.length + 8) (y : Int) (y0 : 0 ≤ y) (y1 : y ≤ 255) (hy : y ≠ (sealB zs).getD (1 + wid (mag (zs.length : Int)) + q) 0) :
    (tu ((sealB zs).set (1 + wid (mag (zs.length : Int)) + q) y)).2.2 = 12 := by
  obtain ⟨hc1, hc2⟩ := chkF_bounds c0 zs c0_bounds.1 c0_bounds.2
  have hnl := numB_length (zs.length : Int)
  have hll := lowL_length 8 (chkF c0 zs)
  have hlb := lowL_byte 8 (chkF c0 zs)
  rw [sealB_parts] at hy ⊢
  rw [getD_right _ _ _ (by omega), hnl, show 1 + wid (mag (zs.length : Int)) + q - (1 + wid (mag (zs.length : Int))) = q by omega] at hy
  rw [List.set_append_right _ _ (by omega), hnl, show 1 + wid (mag (zs.length : Int)) + q - (1 + wid (mag (zs.length : Int))) = q by omega]
  by_cases hlt : q < zs.length
  · rw [getD_left _ _ _ hlt] at hy
    rw [List.set_append_left _ _ hlt]
    have hsl : (zs.set q y).length = zs.length := List.length_set
    have ht := tu_num zs.length hz (zs.set q y ++ lowL 8 (chkF c0 zs))
    rw [ht, if_neg (by rw [List.length_append, hsl, hll]; omega), if_pos]
    rw [← hsl, List.drop_left, List.take_left, List.take_of_length_le (by omega), valL_low 8 _ hc1 (by rw [B256_8]; omega)]
    exact fun e => chkF_set zs hb c0 c0_bounds.1 c0_bounds.2 q hlt y y0 y1 hy e.symm
  · rw [getD_right _ _ _ (by omega)] at hy
    rw [List.set_append_right _ _ (by omega)]
    have hsl : ((lowL 8 (chkF c0 zs)).set (q - zs.length) y).length = 8 := by rw [List.length_set, hll]
    rw [tu_num zs.length hz, if_neg (by rw [List.length_append, hsl]; omega), if_pos]
    rw [List.drop_left, List.take_left, List.take_of_length_le (by omega)]
    intro e
    have hb' : Byt ((lowL 8 (chkF c0 zs)).set (q - zs.length) y) := fun x hx => by
      rcases List.mem_or_eq_of_mem_set hx with hx | rfl
      · exact hlb x hx
      · exact ⟨y0, y1⟩
    have := (val_low _ hb' hsl _ hc1 hc2).2 e
    have h2 := congrArg (fun l => l.getD (q - zs.length) 0) this
    have hlt2 : q - zs.length < (lowL 8 (chkF c0 zs)).length := by omega
    rw [show ((lowL 8 (chkF c0 zs)).set (q - zs.length) y).getD (q - zs.length) 0 = y by simp [List.getD, hlt2]] at h2
    exact hy h2.symm

end Go.Proofs.YtggllgimlfchhabGreat
