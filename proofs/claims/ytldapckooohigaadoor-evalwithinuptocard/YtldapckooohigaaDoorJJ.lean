/- Several texts as one. -/
import Derived.Test.YtldapckooohigaaDoorJE
import Derived.Test.YtldapckooohigaaDoorJG

/- A run built. -/
namespace Go.Proofs.YtldapckooohigaaDoor
open Go.RowKit
set_option maxRecDepth 100000

def mc0 : Mc := ⟨0, 0, [0, 0, 0, 0, 0, 0, 0, 0], [], []⟩
def nilV : Value := .slice none 0 0
/-- A run's cells ahead of the list and of the places. -/
def envB (s r : Int) (cv av rv wv lv : Value) (pl : List Int) (mr mw : Nat) : Env := ⟨s, r, cv, av, rv, wv, lv, pl, mr, mw⟩
def pl0 : List Int := List.replicate 512 0
def zL : List Value := [iv 0, iv 0, nilV, nilV, nilV, nilV, nilV] ++ (pl0.map iv ++ ([iv 0, iv 0] ++ ([0, 0, 0, 0, 0, 0, 0, (0 : Int)].map iv ++ [.map none, .map none, nilV])))
theorem zero82 : Tryd.zeroCells82 = zL.toArray := by kernel_rfl
theorem fields82 : (Tryd.prog.underlying 82).bind (fun d => match d with | .struct fs => some (fs.toList.map fun f => (f.type, f.offset)) | _ => none) = some [(35, 0), (78, 6), (79, 7), (3, 519), (3, 520), (80, 521), (69, 529), (67, 530), (32, 531)] := by kernel_rfl
theorem set_zL (s r : Int) (cv av rv wv : Value) (mr mw : Nat) :
    ((((((((zL.set 0 (iv s)).set 1 (iv r)).set 2 cv).set 3 av).set 4 rv).set 5 wv).set 529 (.map (some mr))).set 530 (.map (some mw))).toArray = rC (envB s r cv av rv wv nilV pl0 mr mw) mc0 nilV := by
  kernel_rfl
theorem cells82 (s r : Int) (cv av rv wv : Value) (mr mw : Nat) :
    (((((((Tryd.zeroCells82.setIfInBounds 0 (.int .i64 s)).setIfInBounds 1 (.int .i64 r)).setIfInBounds 2 cv).setIfInBounds 3 av).setIfInBounds 4 rv).setIfInBounds 5 wv).setIfInBounds 529 (.map (some mr))).setIfInBounds 530 (.map (some mw)) = rC (envB s r cv av rv wv nilV pl0 mr mw) mc0 nilV := by
  rw [← set_zL, zero82]
  simp only [List.setIfInBounds_toArray]
end Go.Proofs.YtldapckooohigaaDoor

/- Places, and instructions that may run, in pure terms. -/
namespace Go.Proofs.YtldapckooohigaaDoor
open Go.RowKit
set_option maxRecDepth 100000

def plN (L : List Ins) : Nat → List Int
  | 0 => pl0
  | i + 1 => (plN L i).set (L.getD i zeroI).ad.toNat (i : Int)
theorem plN_len (L : List Ins) : ∀ i, (plN L i).length = 512
  | 0 => by simp [plN, pl0]
  | i + 1 => by rw [plN, List.length_set]; exact plN_len L i
/-- Addresses rise. -/
theorem wk_ads {l : List Int} : ∀ (n p : Nat), l.length - p ≤ n → ((wkR l p).1.Pairwise fun x y => x.ad < y.ad) ∧ ∀ x ∈ (wkR l p).1, (p : Int) ≤ x.ad ∧ x.ad < l.length := by
  intro n
  induction n with
  | zero => intro p h; rw [wkR_end (by omega)]; exact ⟨List.Pairwise.nil, fun x hx => by cases hx⟩
  | succ n ih =>
    intro p hn
    by_cases hlt : p < l.length
    · by_cases h0 : oneE l p = 0
      · have hs := sA_pos h0
        obtain ⟨i1, i2⟩ := ih (p + sA l p) (by omega)
        rw [wkR_yes h0]
        refine ⟨List.pairwise_cons.2 ⟨fun y hy => ?_, i1⟩, fun x hx => ?_⟩
        · have := (i2 y hy).1
          rw [rd_ad]
          omega
        · rcases List.mem_cons.1 hx with rfl | hx
          · rw [rd_ad]; omega
          · have := i2 x hx
            omega
      · rw [wkR_no hlt h0]; exact ⟨List.Pairwise.nil, fun x hx => by cases hx⟩
    · rw [wkR_end (by omega)]; exact ⟨List.Pairwise.nil, fun x hx => by cases hx⟩
theorem plN_at {L : List Ins} (hp : L.Pairwise fun x y => x.ad < y.ad) (hr : ∀ x ∈ L, 0 ≤ x.ad ∧ x.ad < 512) : ∀ (i : Nat), i ≤ L.length → ∀ j (hj : j < L.length), j < i → (plN L i).getD L[j].ad.toNat 0 = (j : Int)
  | 0, _, j, _, h => by omega
  | i + 1, hi, j, hj, h => by
    have hlt : i < L.length := by omega
    have hri := hr _ (List.getElem_mem hlt)
    have hrj := hr _ (List.getElem_mem hj)
    have e : L.getD i zeroI = L[i] := by simp [List.getD, hlt]
    rw [plN, e, List.getD_eq_getElem?_getD]
    by_cases hji : j = i
    · subst hji
      rw [List.getElem?_set_self (by rw [plN_len]; omega)]
      rfl
    · have hlt2 : j < i := by omega
      have hne : L[j].ad < L[i].ad := List.pairwise_iff_getElem.1 hp j i hj hlt hlt2
      rw [List.getElem?_set_ne (by omega), ← List.getD_eq_getElem?_getD]
      exact plN_at hp hr i (by omega) j hj hlt2
theorem plP_at {L : List Ins} (hp : L.Pairwise fun x y => x.ad < y.ad) {j : Nat} (hj : j < L.length) : plP L L[j].ad = j := by
  unfold plP
  refine (List.findIdx_eq hj).2 ⟨by simp, fun k hk => ?_⟩
  have := List.pairwise_iff_getElem.1 hp k j (by omega) hj hk
  simp only [decide_eq_false_iff_not]
  omega
/-- What may run. -/
theorem okX_of {code : List Int} {E : Env} {P : Tp} (hby : Byt code) (hd : (dec code).2 = 0) (hL : P.L = (dec code).1) (hpl : E.pl = plN P.L P.L.length)
    (hb : (dec code).1.all (hasB P.ar.length P.rs.length P.ws.length) = true) : ∀ x ∈ P.L, OkX E P x := by
  intro x hx
  rw [hL] at hx hpl
  obtain ⟨h512, hw, htg⟩ := dec_ok hd
  obtain ⟨ha, har⟩ := wk_ads (l := code) code.length 0 (by omega)
  rw [hw] at ha har
  simp only at ha har
  have har' : ∀ x ∈ (dec code).1, 0 ≤ x.ad ∧ x.ad < 512 := fun x hx => by have := har x hx; omega
  obtain ⟨q, hxq, hq0, _⟩ := (wk_facts code.length 0 (by omega) (Nat.zero_le _) hw).2 x hx
  obtain ⟨_, _, _, _, hsd⟩ := oneE_ok hq0
  have hsd' : sd x = true := by rw [hxq]; exact hsd
  have hsd2 := of_decide_eq_true hsd'
  have him : x.op ≠ 1 → 0 ≤ x.im ∧ x.im ≤ 65535 := fun h => by
    have e : x.im = vl ((code.drop (q + 1 + rg (code.getD q 0))).take (wd (code.getD q 0))) := by
      have hop : code.getD q 0 ≠ 1 := by rw [← rd_op code q, ← hxq]; exact h
      rw [hxq]
      show imm (code.getD q 0) _ = _
      unfold imm
      rw [if_neg hop]
    rw [e]
    exact vl_nonneg ((hby.drop _).take _)
  have hhb := List.all_eq_true.1 hb x hx
  unfold hasB at hhb
  refine ⟨hsd2.2.1, hsd2.2.2, fun h => ?_, fun h => ?_, fun h => ?_, fun h => ?_, fun h => him (by omega)⟩
  · rw [if_pos h] at hhb
    exact ⟨(him (by omega)).1, of_decide_eq_true hhb⟩
  · rw [if_neg (by omega), if_pos h] at hhb
    exact ⟨(him (by omega)).1, of_decide_eq_true hhb⟩
  · rw [if_neg (by omega), if_neg (by omega), if_pos h] at hhb
    exact ⟨(him (by omega)).1, of_decide_eq_true hhb⟩
  · have ht := htg x hx
    unfold tgt at ht
    have hj : jmp x = true := decide_eq_true h
    rw [hj] at ht
    simp only [Bool.not_true, Bool.false_or] at ht
    obtain ⟨y, hy, hye⟩ := List.any_eq_true.1 ht
    have hye' : y.ad = x.im := of_decide_eq_true hye
    obtain ⟨j, hjl, rfl⟩ := List.getElem_of_mem hy
    have hr := har' _ hy
    rw [← hye']
    refine ⟨hr.1, hr.2, ?_⟩
    rw [hpl, hL, plN_at ha har' _ (Nat.le_refl _) j hjl hjl, plP_at ha hjl]
end Go.Proofs.YtldapckooohigaaDoor
