/- Instructions in pure terms: sizes, registers, widths; one read off bytes, all of them; one written. -/
import Derived.Test.YtknpfippdddnhabDoorA0
namespace Go.Proofs.YtknpfippdddnhabDoor
set_option maxRecDepth 100000

/-- Bytes of each instruction. -/
def szL : List Int := [1, 4, 3, 3, 3, 3, 2, 3, 3, 3, 3, 3, 3, 3, 3, 3, 3, 3, 3, 3, 3, 3, 3, 4, 2, 2, 4, 4]
def sz (op : Int) : Int := if 0 ≤ op ∧ op < 28 then szL.getD op.toNat 0 else 0
def rg (op : Int) : Nat := if op = 0 ∨ op = 6 ∨ op = 22 ∨ op = 25 then 0 else if op = 1 ∨ op = 2 ∨ op = 3 ∨ op = 4 ∨ op = 5 ∨ op = 19 ∨ op = 23 ∨ op = 24 then 1 else 2
def wd (op : Int) : Nat := (sz op - 1 - rg op).toNat
theorem op_cases {op : Int} (h0 : 0 ≤ op) (h1 : op < 28) : op = 0 ∨ op = 1 ∨ op = 2 ∨ op = 3 ∨ op = 4 ∨ op = 5 ∨ op = 6 ∨ op = 7 ∨ op = 8 ∨ op = 9 ∨ op = 10 ∨ op = 11 ∨ op = 12 ∨ op = 13 ∨ op = 14 ∨ op = 15 ∨ op = 16 ∨ op = 17 ∨ op = 18 ∨ op = 19 ∨ op = 20 ∨ op = 21 ∨ op = 22 ∨ op = 23 ∨ op = 24 ∨ op = 25 ∨ op = 26 ∨ op = 27 := by omega
theorem op_fin : ∀ y : Fin 28, (1 ≤ sz (y.val : Int) ∧ sz (y.val : Int) ≤ 4 ∧ sz (y.val : Int) = 1 + rg (y.val : Int) + wd (y.val : Int) ∧ rg (y.val : Int) ≤ 2 ∧ wd (y.val : Int) ≤ 2) ∧ szL.getD y.val 0 = sz (y.val : Int) := by decide
theorem op_facts {op : Int} (h0 : 0 ≤ op) (h1 : op < 28) : 1 ≤ sz op ∧ sz op ≤ 4 ∧ sz op = 1 + rg op + wd op ∧ rg op ≤ 2 ∧ wd op ≤ 2 ∧ szL.getD op.toNat 0 = sz op := by
  have h := op_fin ⟨op.toNat, by omega⟩
  simp only [Int.toNat_of_nonneg h0] at h
  obtain ⟨⟨a, b, c, d, e⟩, f⟩ := h
  exact ⟨a, b, c, d, e, f⟩
theorem sz_pos {op : Int} (h : sz op ≠ 0) : 0 ≤ op ∧ op < 28 := by
  unfold sz at h
  split at h
  · assumption
  · exact absurd rfl h
theorem sz_none {op : Int} (h : ¬ (0 ≤ op ∧ op < 28)) : sz op = 0 := by unfold sz; rw [if_neg h]
theorem sz_ne {op : Int} (h0 : 0 ≤ op) (h1 : op < 28) : sz op ≠ 0 := by have := (op_facts h0 h1).1; omega

/-- A number of its bytes, the lower one first. -/
def vl : List Int → Int
  | [] => 0
  | [x] => x
  | x :: y :: _ => x + 256 * y
def sg (u : Int) : Int := if u < 32768 then u else u - 65536
def imm (op : Int) (l : List Int) : Int := if op = 1 then sg (vl l) else vl l
/-- What stands at an address. -/
def rd (l : List Int) (p : Nat) : Ins := ⟨p, l.getD p 0, if 1 ≤ rg (l.getD p 0) then l.getD (p + 1) 0 else 0, if 2 ≤ rg (l.getD p 0) then l.getD (p + 2) 0 else 0, imm (l.getD p 0) ((l.drop (p + 1 + rg (l.getD p 0))).take (wd (l.getD p 0)))⟩
/-- Its registers are there, and the bits to which it cuts. -/
def sd (x : Ins) : Bool := decide ((x.op = 19 → x.im = 8 ∨ x.im = 16 ∨ x.im = 32) ∧ (0 ≤ x.a ∧ x.a < 8) ∧ 0 ≤ x.b ∧ x.b < 8)
/-- What is wrong at an address. -/
def oneE (l : List Int) (p : Int) : Int :=
  if 0 ≤ p ∧ p < l.length then
    (if sz (l.getD p.toNat 0) = 0 ∨ (l.length : Int) - p < sz (l.getD p.toNat 0) then 130 else if sd (rd l p.toNat) = true then 0 else 132)
  else 130
theorem oneE_ok {l : List Int} {p : Nat} (h : oneE l p = 0) : p < l.length ∧ 0 ≤ l.getD p 0 ∧ l.getD p 0 < 28 ∧ (p : Int) + sz (l.getD p 0) ≤ l.length ∧ sd (rd l p) = true := by
  unfold oneE at h
  simp only [Int.toNat_natCast] at h
  split at h
  · rename_i h1
    split at h
    · cases h
    · rename_i h2
      simp only [not_or] at h2
      have := sz_pos h2.1
      split at h
      · rename_i h3
        exact ⟨by omega, this.1, this.2, by omega, h3⟩
      · cases h
  · cases h
/-- The size at an address. -/
def sA (l : List Int) (p : Nat) : Nat := (sz (l.getD p 0)).toNat
theorem sA_pos {l : List Int} {p : Nat} (h : oneE l p = 0) : 1 ≤ sA l p ∧ sA l p ≤ 4 ∧ p + sA l p ≤ l.length ∧ ((sA l p : Nat) : Int) = sz (l.getD p 0) := by
  obtain ⟨h1, h2, h3, h4, _⟩ := oneE_ok h
  have := op_facts h2 h3
  unfold sA
  omega
/-- All from an address on, and what is wrong behind them. -/
def wkR (l : List Int) (p : Nat) : List Ins × Int :=
  if _h : p < l.length then
    (if _h2 : oneE l p = 0 then (rd l p :: (wkR l (p + sA l p)).1, (wkR l (p + sA l p)).2) else ([], oneE l p))
  else ([], 0)
  termination_by l.length - p
  decreasing_by all_goals (have := sA_pos _h2; omega)
theorem wkR_end {l : List Int} {p : Nat} (h : l.length ≤ p) : wkR l p = ([], 0) := by rw [wkR, dif_neg (by omega)]
theorem wkR_no {l : List Int} {p : Nat} (h : p < l.length) (h2 : oneE l p ≠ 0) : wkR l p = ([], oneE l p) := by rw [wkR, dif_pos h, dif_neg h2]
theorem wkR_yes {l : List Int} {p : Nat} (h2 : oneE l p = 0) : wkR l p = (rd l p :: (wkR l (p + sA l p)).1, (wkR l (p + sA l p)).2) := by
  have := sA_pos h2
  rw [wkR, dif_pos (by omega), dif_pos h2]
def jmp (x : Ins) : Bool := decide (x.op = 22 ∨ x.op = 23)
/-- A jump's target is the address of one of them. -/
def tgt (l : List Ins) (x : Ins) : Bool := !jmp x || l.any fun y => decide (y.ad = x.im)
def dec (l : List Int) : List Ins × Int :=
  if 512 < l.length then ([], 3)
  else if (wkR l 0).2 ≠ 0 then ([], (wkR l 0).2)
  else if (wkR l 0).1.all (tgt (wkR l 0).1) = true then ((wkR l 0).1, 0) else ([], 131)

/-- What an instruction does not have is zero. -/
def lnn (x : Ins) : Bool := decide ((0 < rg x.op ∨ x.a = 0) ∧ (1 < rg x.op ∨ x.b = 0) ∧ (0 < wd x.op ∨ x.im = 0))
def fit (x : Ins) : Bool := if x.op = 1 then decide (-32768 ≤ x.im ∧ x.im ≤ 32767) else decide (0 ≤ x.im ∧ x.im < (if wd x.op = 0 then 1 else if wd x.op = 1 then 256 else 65536))
def putE (x : Ins) : Int := if (0 ≤ x.op ∧ x.op < 28) ∧ lnn x = true then (if sd x = true then (if fit x = true then 0 else 130) else 132) else 130
/-- Its bytes. -/
def putB (x : Ins) : List Int := [x.op] ++ (if rg x.op = 0 then [] else if rg x.op = 1 then [x.a] else [x.a, x.b]) ++ (if wd x.op = 0 then [] else if wd x.op = 1 then [x.im % 256] else [x.im % 256, x.im / 256 % 256])
def encE : List Ins → Int
  | [] => 0
  | x :: r => if putE x = 0 then encE r else putE x
def enc (l : List Ins) : List Int × Int :=
  if encE l ≠ 0 then ([], encE l) else if 512 < (l.flatMap putB).length then ([], 3) else (l.flatMap putB, 0)
theorem putE_op {x : Ins} (h : putE x = 0) : (0 ≤ x.op ∧ x.op < 28) ∧ lnn x = true ∧ sd x = true ∧ fit x = true := by
  unfold putE at h
  repeat' split at h
  all_goals first | cases h | skip
  rename_i a b c
  exact ⟨a.1, a.2, b, c⟩
theorem putB_len {x : Ins} (h : 0 ≤ x.op ∧ x.op < 28) : ((putB x).length : Int) = sz x.op := by
  obtain ⟨_, _, e, h1, h2, _⟩ := op_facts h.1 h.2
  unfold putB
  rw [e]
  rcases (by omega : rg x.op = 0 ∨ rg x.op = 1 ∨ rg x.op = 2) with a | a | a <;> rcases (by omega : wd x.op = 0 ∨ wd x.op = 1 ∨ wd x.op = 2) with b | b | b <;> simp [a, b] <;> omega
/-- Numbers that are bytes. -/
def Byt (l : List Int) : Prop := ∀ b ∈ l, 0 ≤ b ∧ b ≤ 255
theorem Byt.append {a b : List Int} (ha : Byt a) (hb : Byt b) : Byt (a ++ b) := fun x hx => (List.mem_append.1 hx).elim (ha x) (hb x)
theorem Byt.drop {a : List Int} (ha : Byt a) (k : Nat) : Byt (a.drop k) := fun x hx => ha x (List.mem_of_mem_drop hx)
theorem Byt.take {a : List Int} (ha : Byt a) (k : Nat) : Byt (a.take k) := fun x hx => ha x (List.mem_of_mem_take hx)
theorem Byt.get {l : List Int} (h : Byt l) (t : Nat) : 0 ≤ l.getD t 0 ∧ l.getD t 0 ≤ 255 := by
  by_cases ht : t < l.length
  · exact h (l.getD t 0) (by simp [List.getD, ht])
  · simp [List.getD, List.getElem?_eq_none (Nat.le_of_not_lt ht)]
theorem putB_byt {x : Ins} (h : putE x = 0) : Byt (putB x) := by
  obtain ⟨h1, h2, h3, h4⟩ := putE_op h
  simp only [sd, decide_eq_true_eq] at h3
  intro b hb
  unfold putB at hb
  simp only [List.mem_append, List.mem_singleton] at hb
  rcases hb with (hb | hb) | hb
  · omega
  · split at hb
    · cases hb
    · split at hb <;> simp at hb <;> omega
  · split at hb
    · cases hb
    · split at hb <;> simp at hb <;> omega
theorem enc_byt : ∀ {l : List Ins}, encE l = 0 → Byt (l.flatMap putB)
  | [], _ => fun b hb => by cases hb
  | x :: r, h => by
    unfold encE at h
    by_cases hx : putE x = 0
    · rw [if_pos hx] at h
      rw [List.flatMap_cons]
      exact (putB_byt hx).append (enc_byt h)
    · rw [if_neg hx] at h; exact absurd h hx
end Go.Proofs.YtknpfippdddnhabDoor
