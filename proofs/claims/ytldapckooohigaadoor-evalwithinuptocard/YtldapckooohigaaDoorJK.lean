/- Several texts as one. -/
import Derived.Test.YtldapckooohigaaDoorJX

/- Encoding in pure terms. -/
namespace Go.Proofs.YtldapckooohigaaDoor
open Go.RowKit
set_option maxRecDepth 100000

def I64 (x : Int) : Prop := -9223372036854775808 ≤ x ∧ x ≤ 9223372036854775807
theorem encE_yes {x : Ins} {r : List Ins} (h : putE x = 0) : encE (x :: r) = encE r := if_pos h
theorem encE_not {x : Ins} {r : List Ins} (h : putE x ≠ 0) : encE (x :: r) = putE x := if_neg h
theorem encE_app : ∀ (A B : List Ins), encE (A ++ B) = if encE A = 0 then encE B else encE A
  | [], B => rfl
  | x :: r, B => by
    by_cases hx : putE x = 0
    · rw [List.cons_append, encE_yes hx, encE_yes hx, encE_app r B]
    · rw [List.cons_append, encE_not hx, encE_not hx, if_neg hx]
theorem encE_at {l : List Ins} {t : Nat} {x : Ins} (hx : l[t]? = some x) (h : encE (l.take t) = 0) (he : putE x ≠ 0) : encE l = putE x := by
  obtain ⟨ht, rfl⟩ := List.getElem?_eq_some_iff.1 hx
  have e : l = l.take t ++ l[t] :: l.drop (t + 1) := by rw [← List.drop_eq_getElem_cons ht, List.take_append_drop]
  rw [congrArg encE e, encE_app, if_pos h, encE_not he]
theorem encE_step {l : List Ins} {t : Nat} {x : Ins} (hx : l[t]? = some x) (h : encE (l.take t) = 0) (he : putE x = 0) : encE (l.take (t + 1)) = 0 := by
  obtain ⟨ht, rfl⟩ := List.getElem?_eq_some_iff.1 hx
  rw [List.take_succ_eq_append_getElem ht, encE_app, if_pos h]
  simp [encE, he]
theorem putB_le (x : Ins) : (putB x).length ≤ 5 := by
  unfold putB
  split <;> split <;> (try split) <;> (try split) <;> simp
theorem flat_le : ∀ l : List Ins, (l.flatMap putB).length ≤ 5 * l.length
  | [] => by simp
  | x :: r => by rw [List.flatMap_cons, List.length_append, List.length_cons]; have := putB_le x; have := flat_le r; omega
theorem enc_long {l : List Ins} (h : encE l = 0) (hl : 512 < (l.flatMap putB).length) : enc l = ([], 3) := by unfold enc; rw [if_neg (by simpa using h), if_pos hl]
theorem enc_yes {l : List Ins} (h : encE l = 0) (hl : (l.flatMap putB).length ≤ 512) : enc l = (l.flatMap putB, 0) := by unfold enc; rw [if_neg (by simpa using h), if_neg (by omega)]
theorem enc_no {l : List Ins} (h : encE l ≠ 0) : enc l = ([], encE l) := by unfold enc; rw [if_pos h]
theorem enc_err {l : List Ins} (h : (enc l).2 ≠ 0) : (enc l).1 = [] := by
  unfold enc at h ⊢
  split
  · rfl
  · rename_i h1
    rw [if_neg h1] at h
    split
    · rfl
    · rename_i h2
      rw [if_neg h2] at h
      exact absurd rfl h

def OkI (l : List Ins) : Prop := ∀ x ∈ l, I64 x.im
end Go.Proofs.YtldapckooohigaaDoor

/- What can be reached, in pure terms. -/
namespace Go.Proofs.YtldapckooohigaaDoor
open Go.RowKit
set_option maxRecDepth 100000

/-- Where a run may go on behind an instruction. -/
def onw (x : Ins) : List Int := if x.op = 0 ∨ x.op = 25 then [] else if x.op = 22 then [x.im] else if x.op = 23 then [x.ad + sz x.op, x.im] else [x.ad + sz x.op]
inductive Rch (l : List Int) : Nat → Prop
  | zero : Rch l 0
  | step {p : Nat} {q : Int} : Rch l p → p < l.length → q ∈ onw (rd l p) → Rch l q.toNat
/-- What a list of instructions that was read to the end is. -/
theorem wk_facts {l : List Int} {L : List Ins} : ∀ (n p : Nat), l.length - p ≤ n → p ≤ l.length → wkR l p = (L, 0) → (p < l.length → rd l p ∈ L ∧ oneE l p = 0) ∧ ∀ x ∈ L, ∃ q, x = rd l q ∧ oneE l q = 0 ∧ (q + sA l q = l.length ∨ rd l (q + sA l q) ∈ L) := by
  intro n
  induction n generalizing L with
  | zero =>
    intro p hn hp h
    have e : l.length ≤ p := by omega
    rw [wkR_end e] at h
    simp only [Prod.mk.injEq] at h
    obtain ⟨rfl, _⟩ := h
    exact ⟨fun h => absurd h (by omega), fun x hx => by cases hx⟩
  | succ n ih =>
    intro p hn hp h
    by_cases hlt : p < l.length
    · by_cases h0 : oneE l p = 0
      · have hs := sA_pos h0
        rw [wkR_yes h0] at h
        simp only [Prod.mk.injEq] at h
        obtain ⟨hL, h2⟩ := h
        have hk : wkR l (p + sA l p) = ((wkR l (p + sA l p)).1, 0) := by rw [← h2]
        obtain ⟨i1, i2⟩ := ih (p + sA l p) (by omega) (by omega) hk
        subst hL
        refine ⟨fun _ => ⟨List.mem_cons_self .., h0⟩, fun x hx => ?_⟩
        rcases List.mem_cons.1 hx with rfl | hx
        · refine ⟨p, rfl, h0, ?_⟩
          by_cases he : p + sA l p = l.length
          · exact .inl he
          · exact .inr (List.mem_cons_of_mem _ (i1 (by omega)).1)
        · obtain ⟨q, e1, e2, e3⟩ := i2 x hx
          exact ⟨q, e1, e2, e3.imp id (List.mem_cons_of_mem _)⟩
      · rw [wkR_no hlt h0] at h
        simp only [Prod.mk.injEq] at h
        exact absurd h.2 h0
    · rw [wkR_end (by omega)] at h
      simp only [Prod.mk.injEq] at h
      obtain ⟨rfl, _⟩ := h
      exact ⟨fun h => absurd h hlt, fun x hx => by cases hx⟩
theorem dec_ok {l : List Int} (h : (dec l).2 = 0) : l.length ≤ 512 ∧ wkR l 0 = ((dec l).1, 0) ∧ ∀ x ∈ (dec l).1, tgt (dec l).1 x = true := by
  unfold dec at h ⊢
  split at h
  · cases h
  · rename_i h1
    split at h
    · rename_i h2
      exact absurd h h2
    · rename_i h2
      split at h
      · rename_i h3
        rw [if_neg h1, if_neg h2, if_pos h3]
        have h2' : (wkR l 0).2 = 0 := Classical.not_not.1 h2
        exact ⟨by omega, by rw [← h2'], fun x hx => List.all_eq_true.1 h3 x hx⟩
      · cases h
/-- An address at which a run may stand: an instruction's, or the end. -/
def Ok (l : List Int) (p : Nat) : Prop := p ≤ l.length ∧ (p < l.length → oneE l p = 0 ∧ rd l p ∈ (dec l).1)
theorem ok_zero {l : List Int} (h : (dec l).2 = 0) : Ok l 0 := by
  obtain ⟨_, hw, _⟩ := dec_ok h
  exact ⟨Nat.zero_le _, fun hp => by have := (wk_facts _ 0 (Nat.le_refl _) (Nat.zero_le _) hw).1 hp; exact ⟨this.2, this.1⟩⟩
theorem ok_next {l : List Int} (hby : Byt l) (h : (dec l).2 = 0) {p : Nat} (hp : p < l.length) (ho : Ok l p) {q : Int} (hq : q ∈ onw (rd l p)) : 0 ≤ q ∧ Ok l q.toNat := by
  obtain ⟨_, hw, ht⟩ := dec_ok h
  have hf := (wk_facts _ 0 (Nat.le_refl _) (Nat.zero_le _) hw).2
  obtain ⟨h0, hm⟩ := ho.2 hp
  have hs := sA_pos h0
  have hnext : Ok l (p + sA l p) := by
    obtain ⟨q', e1, e2, e3⟩ := hf _ hm
    have eq : (p : Int) = q' := by have := congrArg Ins.ad e1; exact this
    obtain rfl : p = q' := by omega
    refine ⟨hs.2.2.1, fun hl => ?_⟩
    rcases e3 with e3 | e3
    · omega
    · obtain ⟨q'', f1, f2, _⟩ := hf _ e3
      have eq : ((p + sA l p : Nat) : Int) = q'' := by have := congrArg Ins.ad f1; exact this
      obtain rfl : p + sA l p = q'' := by omega
      exact ⟨f2, e3⟩
  have e1 : (rd l p).ad + sz (rd l p).op = ((p + sA l p : Nat) : Int) := by rw [rd_ad, rd_op, ← hs.2.2.2]; omega
  have hjump : jmp (rd l p) = true → 0 ≤ (rd l p).im ∧ Ok l (rd l p).im.toNat := fun hj => by
    have hi := rd_im hby p hj
    have htg := ht _ hm
    unfold tgt at htg
    rw [hj] at htg
    simp only [Bool.not_true, Bool.false_or, List.any_eq_true, decide_eq_true_eq] at htg
    obtain ⟨y, hy, hya⟩ := htg
    obtain ⟨q', f1, f2, _⟩ := hf _ hy
    have eq : (rd l p).im = q' := by rw [← hya, f1]; rfl
    refine ⟨hi, ?_⟩
    rw [eq, Int.toNat_natCast]
    have := (oneE_ok f2).1
    exact ⟨by omega, fun _ => ⟨f2, by rw [← f1]; exact hy⟩⟩
  unfold onw at hq
  split at hq
  · cases hq
  · split at hq
    · rename_i h22
      obtain rfl : q = (rd l p).im := by simpa using hq
      exact hjump (decide_eq_true (.inl h22))
    · split at hq
      · rename_i h23
        rw [e1] at hq
        simp only [List.mem_cons, List.not_mem_nil, or_false] at hq
        rcases hq with rfl | rfl
        · exact ⟨by omega, by rw [Int.toNat_natCast]; exact hnext⟩
        · exact hjump (decide_eq_true (.inr h23))
      · rw [e1] at hq
        obtain rfl : q = ((p + sA l p : Nat) : Int) := by simpa using hq
        exact ⟨by omega, by rw [Int.toNat_natCast]; exact hnext⟩
theorem onw_len (x : Ins) : (onw x).length ≤ 2 := by unfold onw; (repeat' split) <;> simp
/-- How many are marked. -/
def cnt (C : Nat → Bool) : Nat := ((List.range 512).filter C).length
theorem cnt_le (C : Nat → Bool) : cnt C ≤ 512 := by unfold cnt; exact Nat.le_trans (List.length_filter_le _ _) (by simp)
def mk1 (C : Nat → Bool) (p : Nat) : Nat → Bool := fun i => C i || decide (i = p)
theorem filt_or (C : Nat → Bool) (p : Nat) : ∀ l : List Nat, (l.filter (mk1 C p)).length = (l.filter C).length + (l.filter fun i => !C i && decide (i = p)).length
  | [] => rfl
  | x :: r => by
    have ih := filt_or C p r
    have e : mk1 C p x = (C x || decide (x = p)) := rfl
    rw [List.filter_cons, List.filter_cons, List.filter_cons, e]
    cases h1 : C x <;> by_cases h2 : x = p
    · rw [decide_eq_true h2]
      show (x :: _).length = (List.filter C r).length + (x :: _).length
      rw [List.length_cons, List.length_cons, ih]
      omega
    · rw [decide_eq_false h2]
      exact ih
    · show (x :: _).length = (x :: _).length + _
      rw [List.length_cons, List.length_cons, ih]
      simp only [Bool.not_true, Bool.false_and, Bool.false_eq_true, if_false]
      omega
    · show (x :: _).length = (x :: _).length + _
      rw [List.length_cons, List.length_cons, ih]
      simp only [Bool.not_true, Bool.false_and, Bool.false_eq_true, if_false]
      omega
theorem cnt_mk {C : Nat → Bool} {p : Nat} (hp : p < 512) (h : C p = false) : cnt (mk1 C p) ≥ cnt C + 1 := by
  unfold cnt
  rw [filt_or]
  have : p ∈ (List.range 512).filter fun i => !C i && decide (i = p) := by simp [hp, h]
  have := List.length_pos_of_mem this
  omega
end Go.Proofs.YtldapckooohigaaDoor

/- There and back, in pure terms. -/
namespace Go.Proofs.YtldapckooohigaaDoor
set_option maxRecDepth 100000

def lst2 (d : Nat) (x y : Int) : List Int := if d = 0 then [] else if d = 1 then [x] else [x, y]
theorem imm_put (op x y : Int) (d : Nat) (hx : 0 ≤ x ∧ x ≤ 255) (hy : 0 ≤ y ∧ y ≤ 255) (hd : d ≤ 2) (h1 : op = 1 → d = 2) :
    (if op = 1 then decide (-32768 ≤ imm op (lst2 d x y) ∧ imm op (lst2 d x y) ≤ 32767) else decide (0 ≤ imm op (lst2 d x y) ∧ imm op (lst2 d x y) < (if d = 0 then 1 else if d = 1 then 256 else 65536))) = true ∧
    (if d = 0 then ([] : List Int) else if d = 1 then [imm op (lst2 d x y) % 256] else [imm op (lst2 d x y) % 256, imm op (lst2 d x y) / 256 % 256]) = lst2 d x y := by
  by_cases z : op = 1
  · obtain rfl := h1 z
    simp only [if_pos z, imm, lst2]
    simp [vl, sg]
    refine ⟨by split <;> omega, by split <;> omega, by split <;> omega⟩
  · simp only [if_neg z, imm, lst2]
    rcases (by omega : d = 0 ∨ d = 1 ∨ d = 2) with rfl | rfl | rfl <;> simp [vl] <;> omega
/-- What stands at an address may be written, and its bytes are those. -/
theorem rd_put {l : List Int} {p : Nat} (hby : Byt l) (h : oneE l p = 0) : putE (rd l p) = 0 ∧ putB (rd l p) = (l.drop p).take (sA l p) := by
  obtain ⟨h1, h2, h3, h4, h5⟩ := oneE_ok h
  obtain ⟨f1, f2, f3, f4, f5, f6⟩ := op_facts h2 h3
  have hsA : sA l p = 1 + rg (l.getD p 0) + wd (l.getD p 0) := by unfold sA; omega
  have h1w : l.getD p 0 = 1 → wd (l.getD p 0) = 2 := fun z => by rw [z]; rfl
  have b0 := hby.get (p + 1 + rg (l.getD p 0))
  have b1 := hby.get (p + 1 + rg (l.getD p 0) + 1)
  have hd : l.drop p = l.getD p 0 :: l.drop (p + 1) := by
    rw [List.drop_eq_getElem_cons h1]; simp [List.getD, h1]
  have hone : ∀ q, q < l.length → l.drop q = l.getD q 0 :: l.drop (q + 1) := fun q hq => by rw [List.drop_eq_getElem_cons hq]; simp [List.getD, hq]
  have hln : lnn (rd l p) = true := by
    unfold lnn
    refine decide_eq_true ⟨?_, ?_, ?_⟩
    · by_cases z : 1 ≤ rg (l.getD p 0)
      · exact .inl (by show 0 < rg (l.getD p 0); omega)
      · exact .inr (if_neg z)
    · by_cases z : 2 ≤ rg (l.getD p 0)
      · exact .inl (by show 1 < rg (l.getD p 0); omega)
      · exact .inr (if_neg z)
    · by_cases z : 0 < wd (l.getD p 0)
      · exact .inl z
      · refine .inr ?_
        show imm (l.getD p 0) ((l.drop (p + 1 + rg (l.getD p 0))).take (wd (l.getD p 0))) = 0
        rw [show wd (l.getD p 0) = 0 by omega]
        unfold imm
        split <;> simp [vl, sg]
  have himm : (rd l p).im = imm (l.getD p 0) ((l.drop (p + 1 + rg (l.getD p 0))).take (wd (l.getD p 0))) := rfl
  have hop : (rd l p).op = l.getD p 0 := rfl
  have htk : (l.drop (p + 1 + rg (l.getD p 0))).take (wd (l.getD p 0)) = lst2 (wd (l.getD p 0)) (l.getD (p + 1 + rg (l.getD p 0)) 0) (l.getD (p + 1 + rg (l.getD p 0) + 1) 0) := by
    unfold lst2
    rcases (by omega : wd (l.getD p 0) = 0 ∨ wd (l.getD p 0) = 1 ∨ wd (l.getD p 0) = 2) with z | z | z
    · rw [z]; rfl
    · rw [z, take1 (by omega)]; rfl
    · rw [z, take2 (by omega)]; rfl
  have him0 := imm_put (l.getD p 0) _ _ _ b0 b1 f5 h1w
  rw [htk] at himm
  have hft : fit (rd l p) = true := by
    unfold fit
    rw [hop, himm]
    exact him0.1
  refine ⟨?_, ?_⟩
  · unfold putE
    rw [if_pos ⟨⟨h2, h3⟩, hln⟩, if_pos h5, if_pos hft]
  · unfold putB
    rw [hop, hsA]
    have hA : (rd l p).a = if 1 ≤ rg (l.getD p 0) then l.getD (p + 1) 0 else 0 := rfl
    have hB : (rd l p).b = if 2 ≤ rg (l.getD p 0) then l.getD (p + 2) 0 else 0 := rfl
    have him : (if wd (l.getD p 0) = 0 then ([] : List Int) else if wd (l.getD p 0) = 1 then [(rd l p).im % 256] else [(rd l p).im % 256, (rd l p).im / 256 % 256]) = (l.drop (p + 1 + rg (l.getD p 0))).take (wd (l.getD p 0)) := by
      rw [htk, himm]
      exact him0.2
    rw [him, hA, hB, hd]
    rcases (by omega : rg (l.getD p 0) = 0 ∨ rg (l.getD p 0) = 1 ∨ rg (l.getD p 0) = 2) with y | y | y
    · rw [y, show 1 + 0 + wd (l.getD p 0) = wd (l.getD p 0) + 1 by omega, List.take_succ_cons]
      rfl
    · rw [y, hone (p + 1) (by omega), show 1 + 1 + wd (l.getD p 0) = wd (l.getD p 0) + 1 + 1 by omega, List.take_succ_cons, List.take_succ_cons]
      rfl
    · rw [y, hone (p + 1) (by omega), hone (p + 1 + 1) (by omega), show 1 + 2 + wd (l.getD p 0) = wd (l.getD p 0) + 1 + 1 + 1 by omega, List.take_succ_cons, List.take_succ_cons, List.take_succ_cons]
      rfl
theorem wk_enc {l : List Int} (hby : Byt l) : ∀ (n p : Nat) (L : List Ins), l.length - p ≤ n → p ≤ l.length → wkR l p = (L, 0) → encE L = 0 ∧ L.flatMap putB = l.drop p := by
  intro n
  induction n with
  | zero =>
    intro p L hn hp h
    rw [wkR_end (by omega)] at h
    cases h
    exact ⟨rfl, by rw [List.drop_eq_nil_of_le (by omega)]; rfl⟩
  | succ n ih =>
    intro p L hn hp h
    by_cases hlt : p < l.length
    · by_cases h0 : oneE l p = 0
      · rw [wkR_yes h0] at h
        have hs := sA_pos h0
        obtain ⟨e1, e2⟩ := rd_put hby h0
        cases h2 : wkR l (p + sA l p) with
        | mk A E =>
          rw [h2] at h
          simp only [Prod.mk.injEq] at h
          obtain ⟨rfl, rfl⟩ := h
          obtain ⟨i1, i2⟩ := ih (p + sA l p) A (by omega) (by omega) h2
          refine ⟨by rw [encE_yes e1]; exact i1, ?_⟩
          rw [List.flatMap_cons, e2, i2, ← List.drop_drop, List.take_append_drop]
      · rw [wkR_no hlt h0] at h
        exact absurd (congrArg Prod.snd h) h0
    · rw [wkR_end (by omega)] at h
      cases h
      exact ⟨rfl, by rw [List.drop_eq_nil_of_le (by omega)]; rfl⟩
theorem dec_enc {l : List Int} (hby : Byt l) (h : (dec l).2 = 0) : enc (dec l).1 = (l, 0) := by
  obtain ⟨h1, h2, _⟩ := dec_ok h
  obtain ⟨e1, e2⟩ := wk_enc hby l.length 0 _ (by omega) (by omega) h2
  rw [List.drop_zero] at e2
  rw [enc_yes e1 (by rw [e2]; exact h1), e2]
/-- Instructions one behind the other, with their addresses. -/
def adr : Nat → List Ins → List Ins
  | _, [] => []
  | p, x :: r => ⟨p, x.op, x.a, x.b, x.im⟩ :: adr (p + (putB x).length) r
theorem getD_app {A B : List Int} {i : Nat} : (A ++ B).getD (A.length + i) 0 = B.getD i 0 := by simp [List.getD, List.getElem?_append_right]
/-- What was written stands there. -/
theorem put_rd {A B : List Int} {x : Ins} (h : putE x = 0) : oneE (A ++ putB x ++ B) A.length = 0 ∧ rd (A ++ putB x ++ B) A.length = ⟨A.length, x.op, x.a, x.b, x.im⟩ ∧ sA (A ++ putB x ++ B) A.length = (putB x).length := by
  obtain ⟨hop, hln, hsd, hft⟩ := putE_op h
  obtain ⟨f1, f2, f3, f4, f5, f6⟩ := op_facts hop.1 hop.2
  have hlen := putB_len hop
  obtain ⟨n1, n2, n3⟩ : (0 < rg x.op ∨ x.a = 0) ∧ (1 < rg x.op ∨ x.b = 0) ∧ (0 < wd x.op ∨ x.im = 0) := of_decide_eq_true hln
  have ft : (x.op = 1 → -32768 ≤ x.im ∧ x.im ≤ 32767) ∧ (x.op ≠ 1 → 0 ≤ x.im ∧ x.im < (if wd x.op = 0 then 1 else if wd x.op = 1 then 256 else 65536)) := by
    unfold fit at hft
    refine ⟨fun z => ?_, fun z => ?_⟩
    · rw [if_pos z] at hft; exact of_decide_eq_true hft
    · rw [if_neg z] at hft; exact of_decide_eq_true hft
  have h1w : x.op = 1 → wd x.op = 2 := fun z => by rw [z]; rfl
  have g : ∀ i, (A ++ putB x ++ B).getD (A.length + i) 0 = (putB x ++ B).getD i 0 := fun i => by rw [List.append_assoc, getD_app]
  have g0 : (A ++ putB x ++ B).getD A.length 0 = x.op := by have := g 0; rw [Nat.add_zero] at this; rw [this]; rfl
  have hrd : rd (A ++ putB x ++ B) A.length = ⟨A.length, x.op, x.a, x.b, x.im⟩ := by
    unfold rd
    rw [g0, g 1, g 2, List.append_assoc A, show (A ++ (putB x ++ B)).drop (A.length + 1 + rg x.op) = (putB x ++ B).drop (1 + rg x.op) by rw [Nat.add_assoc, List.drop_append]; simp]
    have key : ∀ (R W : Nat) (o a b m : Int), R ≤ 2 → W ≤ 2 → (0 < R ∨ a = 0) → (1 < R ∨ b = 0) → (0 < W ∨ m = 0) → (o = 1 → -32768 ≤ m ∧ m ≤ 32767) → (o ≠ 1 → 0 ≤ m ∧ m < (if W = 0 then 1 else if W = 1 then 256 else 65536)) → (o = 1 → W = 2) → ∀ P : List Int, P = [o] ++ (if R = 0 then [] else if R = 1 then [a] else [a, b]) ++ (if W = 0 then [] else if W = 1 then [m % 256] else [m % 256, m / 256 % 256]) →
        (if 1 ≤ R then (P ++ B).getD 1 0 else 0) = a ∧ (if 2 ≤ R then (P ++ B).getD 2 0 else 0) = b ∧ imm o (((P ++ B).drop (1 + R)).take W) = m := by
      intro R W o a b m hR hW k1 k2 k3 k4 k5 k6 P hP
      have him : imm o (if W = 0 then [] else if W = 1 then [m % 256] else [m % 256, m / 256 % 256]) = m := by
        by_cases z : o = 1
        · rw [k6 z]
          have := k4 z
          simp only [imm, if_pos z]
          simp [vl, sg]
          split <;> omega
        · have := k5 z
          simp only [imm, if_neg z]
          rcases (by omega : W = 0 ∨ W = 1 ∨ W = 2) with rfl | rfl | rfl
          · simp at this; simp [vl]; omega
          · simp at this; simp [vl]; omega
          · simp at this; simp [vl]; omega
      have htk : ((P ++ B).drop (1 + R)).take W = (if W = 0 then [] else if W = 1 then [m % 256] else [m % 256, m / 256 % 256]) := by
        rcases (by omega : R = 0 ∨ R = 1 ∨ R = 2) with rfl | rfl | rfl <;> rcases (by omega : W = 0 ∨ W = 1 ∨ W = 2) with rfl | rfl | rfl <;> rw [hP] <;> rfl
      rw [htk]
      refine ⟨?_, ?_, him⟩
      · rcases (by omega : R = 0 ∨ R = 1 ∨ R = 2) with rfl | rfl | rfl
        · rcases k1 with k | k
          · omega
          · rw [k]; rfl
        · rw [hP]; rfl
        · rw [hP]; rfl
      · rcases (by omega : R = 0 ∨ R = 1 ∨ R = 2) with rfl | rfl | rfl
        · rcases k2 with k | k
          · omega
          · rw [k]; rfl
        · rcases k2 with k | k
          · omega
          · rw [k]; rfl
        · rw [hP]; rfl
    obtain ⟨q1, q2, q3⟩ := key (rg x.op) (wd x.op) x.op x.a x.b x.im f4 f5 n1 n2 n3 ft.1 ft.2 h1w (putB x) rfl
    rw [q1, q2, q3]
  have hsA : sA (A ++ putB x ++ B) A.length = (putB x).length := by unfold sA; rw [g0]; omega
  refine ⟨?_, hrd, hsA⟩
  unfold oneE
  rw [Int.toNat_natCast, g0]
  have hl : (A ++ putB x ++ B).length = A.length + (putB x).length + B.length := by simp; omega
  have hsd' : sd (rd (A ++ putB x ++ B) A.length) = true := by rw [hrd]; exact hsd
  rw [if_pos ⟨by omega, by rw [hl]; omega⟩, if_neg (by rw [hl]; have := sz_ne hop.1 hop.2; omega), if_pos hsd']
end Go.Proofs.YtldapckooohigaaDoor

/- What is written, walked through; CodeBack's walk up to the range. -/
namespace Go.Proofs.YtldapckooohigaaDoor
open Go.RowKit Go.Shelf
attribute [local go_sem] Oper.semAt_some
set_option maxRecDepth 100000

theorem wk_adr : ∀ (R : List Ins) (A : List Int), encE R = 0 → wkR (A ++ R.flatMap putB) A.length = (adr A.length R, 0)
  | [], A, _ => by rw [wkR_end (by simp)]; rfl
  | x :: r, A, h => by
    by_cases hx : putE x = 0
    · rw [encE_yes hx] at h
      obtain ⟨h1, h2, h3⟩ := put_rd (A := A) (B := r.flatMap putB) hx
      have ih := wk_adr r (A ++ putB x) h
      rw [List.flatMap_cons, ← List.append_assoc, wkR_yes h1, h2, h3]
      rw [List.length_append] at ih
      rw [ih]
      rfl
    · rw [encE_not hx] at h; exact absurd h hx
def lenB (L : List Ins) : Nat := (L.flatMap putB).length
theorem adr_len : ∀ (L : List Ins) (p : Nat), (adr p L).length = L.length
  | [], _ => rfl
  | x :: r, p => by simp [adr, adr_len r]
theorem adr_at : ∀ (L : List Ins) (p n : Nat) (x : Ins), L[n]? = some x → (adr p L)[n]? = some ⟨(p + lenB (L.take n) : Nat), x.op, x.a, x.b, x.im⟩
  | [], p, n, x, h => by simp at h
  | y :: r, p, 0, x, h => by
    obtain rfl := Option.some.inj h
    simp [adr, lenB]
  | y :: r, p, n + 1, x, h => by
    have := adr_at r (p + (putB y).length) n x (by simpa using h)
    rw [adr, List.getElem?_cons_succ, this]
    simp [lenB, Nat.add_assoc]
theorem lenB_step {L : List Ins} {n : Nat} {x : Ins} (h : L[n]? = some x) : lenB (L.take (n + 1)) = lenB (L.take n) + (putB x).length := by
  obtain ⟨hl, e⟩ := List.getElem?_eq_some_iff.1 h
  unfold lenB
  rw [List.take_succ_eq_append_getElem hl, e, List.flatMap_append]; simp
theorem enc_ok {L : List Ins} (h : (enc L).2 = 0) : encE L = 0 ∧ (enc L).1 = L.flatMap putB ∧ (L.flatMap putB).length ≤ 512 := by
  by_cases h0 : encE L = 0
  · by_cases hl : 512 < (L.flatMap putB).length
    · rw [enc_long h0 hl] at h; cases h
    · rw [enc_yes h0 (by omega)]; exact ⟨h0, rfl, by omega⟩
  · rw [enc_no h0] at h; exact absurd h h0
theorem encE_mem : ∀ {L : List Ins}, encE L = 0 → ∀ x ∈ L, putE x = 0
  | [], _, x, hx => by cases hx
  | y :: r, h, x, hx => by
    by_cases hy : putE y = 0
    · rw [encE_yes hy] at h
      rcases List.mem_cons.1 hx with rfl | hx
      · exact hy
      · exact encE_mem h x hx
    · rw [encE_not hy] at h; exact absurd h hy
theorem putE_im {x : Ins} (h : putE x = 0) : I64 x.im := by
  obtain ⟨hop, -, -, hft⟩ := putE_op h
  unfold fit at hft
  unfold I64
  split at hft
  · have := of_decide_eq_true hft; omega
  · have := of_decide_eq_true hft
    (repeat' split at this) <;> omega
theorem dec_okI {l : List Int} (hby : Byt l) (h : (dec l).2 = 0) : OkI (dec l).1 ∧ (dec l).1.length ≤ 512 := by
  obtain ⟨h1, h2, _⟩ := dec_ok h
  obtain ⟨e1, e2⟩ := wk_enc hby l.length 0 _ (by omega) (by omega) h2
  refine ⟨fun x hx => putE_im (encE_mem e1 x hx), ?_⟩
  have hle : ∀ L : List Ins, L.length ≤ (L.flatMap putB).length := fun L => by
    induction L with
    | nil => simp
    | cons x r ih =>
      rw [List.flatMap_cons, List.length_append, List.length_cons]
      have : 1 ≤ (putB x).length := by simp [putB]
      omega
  have := hle (dec l).1
  rw [e2, List.drop_zero] at this
  omega
end Go.Proofs.YtldapckooohigaaDoor
