/- Plain mathematics of numbers as bytes: how many bytes a number has, its bytes, and back; nothing of the program. -/
import Derived.WalkKit
import Derived.Laws.BitsAllLaws
namespace Go.Proofs.Ytoddemcmmijoaaa
open Go.RowKit
set_option maxRecDepth 100000

theorem hide {p : Prop} (h : p) : Hid p := h
theorem unhide {p : Prop} (h : Hid p) : p := h

/-- How many bytes a number of 64 bits without sign has. -/
def wid (u : Int) : Nat :=
  if u < 1 then 0 else if u < 256 then 1 else if u < 65536 then 2 else if u < 16777216 then 3 else if u < 4294967296 then 4 else if u < 1099511627776 then 5 else if u < 281474976710656 then 6 else if u < 72057594037927936 then 7 else 8

/-- A number without its sign. -/
def mag (x : Int) : Int := if x < 0 then -x else x

/-- The k lowest bytes, the lowest one first. -/
def lowL : Nat → Int → List Int
  | 0, _ => []
  | k + 1, u => u % 256 :: lowL k (u / 256)

/-- What is left of u behind j bytes. -/
def sh : Nat → Int → Int
  | 0, u => u
  | j + 1, u => sh j u / 256

/-- What bytes say, the lowest one first. -/
def valL : List Int → Int
  | [] => 0
  | b :: r => b + 256 * valL r

def B256 : Nat → Int
  | 0 => 1
  | k + 1 => 256 * B256 k

theorem wid_le (u : Int) : wid u ≤ 8 := by unfold wid; (repeat' split) <;> omega

theorem sh_div (j : Nat) (u : Int) : sh j (u / 256) = sh j u / 256 := by
  induction j with
  | zero => rfl
  | succ j ih => simp only [sh, ih]

theorem sh_nonneg (j : Nat) (u : Int) (h : 0 ≤ u) : 0 ≤ sh j u := by
  induction j with
  | zero => exact h
  | succ j ih => simp only [sh]; omega

theorem sh_le (j : Nat) (u : Int) (h : 0 ≤ u) : sh j u ≤ u := by
  induction j with
  | zero => exact Int.le_refl _
  | succ j ih => have := sh_nonneg j u h; simp only [sh]; omega

theorem lowL_snoc (j : Nat) (u : Int) : lowL (j + 1) u = lowL j u ++ [sh j u % 256] := by
  induction j generalizing u with
  | zero => rfl
  | succ j ih => rw [lowL, ih (u / 256)]; simp only [lowL, List.cons_append, sh, sh_div]

theorem lowL_length (k : Nat) (u : Int) : (lowL k u).length = k := by
  induction k generalizing u with
  | zero => rfl
  | succ k ih => simp only [lowL, List.length_cons, ih]

theorem lowL_byte (k : Nat) (u : Int) : ∀ b ∈ lowL k u, 0 ≤ b ∧ b ≤ 255 := by
  induction k generalizing u with
  | zero => intro b hb; simp [lowL] at hb
  | succ k ih =>
    intro b hb
    simp only [lowL, List.mem_cons] at hb
    rcases hb with rfl | hb
    · omega
    · exact ih _ b hb

theorem B256_pos (k : Nat) : 1 ≤ B256 k := by
  induction k with
  | zero => exact Int.le_refl _
  | succ k ih => simp only [B256]; omega

theorem valL_bound (l : List Int) (h : ∀ b ∈ l, 0 ≤ b ∧ b ≤ 255) : 0 ≤ valL l ∧ valL l < B256 l.length := by
  induction l with
  | nil => exact ⟨Int.le_refl _, by decide⟩
  | cons b r ih =>
    have h1 := ih fun x hx => h x (List.mem_cons_of_mem _ hx)
    have h2 := h b (List.mem_cons_self ..)
    simp only [valL, List.length_cons, B256]
    omega

theorem valL_snoc (l : List Int) (x : Int) : valL (l ++ [x]) = valL l + x * B256 l.length := by
  induction l with
  | nil => simp [valL, B256]
  | cons b r ih =>
    simp only [List.cons_append, valL, List.length_cons, B256, ih]
    rw [Int.mul_add, ← Int.mul_assoc, ← Int.mul_assoc, Int.mul_comm x 256]
    omega

theorem valL_low (k : Nat) (u : Int) (h : 0 ≤ u) (hk : u < B256 k) : valL (lowL k u) = u := by
  induction k generalizing u with
  | zero => simp only [B256] at hk; simp only [lowL, valL]; omega
  | succ k ih =>
    simp only [B256] at hk
    simp only [lowL, valL]
    rw [ih (u / 256) (by omega) (by omega)]
    omega

theorem low_valL (l : List Int) (h : ∀ b ∈ l, 0 ≤ b ∧ b ≤ 255) : lowL l.length (valL l) = l := by
  induction l with
  | nil => rfl
  | cons b r ih =>
    have h2 := h b (List.mem_cons_self ..)
    simp only [valL, List.length_cons, lowL]
    have e1 : (b + 256 * valL r) % 256 = b := by omega
    have e2 : (b + 256 * valL r) / 256 = valL r := by omega
    rw [e1, e2, ih fun x hx => h x (List.mem_cons_of_mem _ hx)]

theorem wid_lt (u : Int) (h0 : 0 ≤ u) (h : u < 18446744073709551616) : u < B256 (wid u) := by
  unfold wid
  repeat (first | (split; simp only [B256]; omega) | (simp only [B256]; omega))

theorem wid_bounds (u : Int) (h0 : 0 ≤ u) (h : u < 18446744073709551616) (k : Nat) (hk : wid u = k + 1) : B256 k ≤ u := by
  have h8 := wid_le u
  have hc : k = 0 ∨ k = 1 ∨ k = 2 ∨ k = 3 ∨ k = 4 ∨ k = 5 ∨ k = 6 ∨ k = 7 := by omega
  unfold wid at hk
  rcases hc with rfl | rfl | rfl | rfl | rfl | rfl | rfl | rfl <;> simp only [B256] <;> (repeat' split at hk) <;> omega

/-- A number whose k bytes are as few as will do. -/
theorem wid_of (u : Int) (k : Nat) (h1 : u < B256 (k + 1)) (h0 : B256 k ≤ u) (hk : k ≤ 7) : wid u = k + 1 := by
  have hc : k = 0 ∨ k = 1 ∨ k = 2 ∨ k = 3 ∨ k = 4 ∨ k = 5 ∨ k = 6 ∨ k = 7 := by omega
  unfold wid
  rcases hc with rfl | rfl | rfl | rfl | rfl | rfl | rfl | rfl <;> simp only [B256] at h0 h1 <;> (repeat' split) <;> omega

theorem B256_eq (k : Nat) : B256 k = ((2 ^ (8 * k) : Nat) : Int) := by
  induction k with
  | zero => rfl
  | succ k ih =>
    simp only [B256, ih]
    rw [show 8 * (k + 1) = 8 * k + 8 from by omega, Nat.pow_add]
    omega

theorem B256_mono (j k : Nat) (h : j ≤ k) : B256 j ≤ B256 k := by
  induction k with
  | zero => obtain rfl : j = 0 := by omega
            exact Int.le_refl _
  | succ k ih =>
    by_cases e : j = k + 1
    · subst e; exact Int.le_refl _
    · have := ih (by omega); have := B256_pos k; simp only [B256]; omega

theorem B256_8 : B256 8 = 18446744073709551616 := by rfl

/-- A byte that is laid above what is there. -/
theorem or_low (u x : Int) (k : Nat) (hk : k ≤ 7) (hu : 0 ≤ u) (hu2 : u < B256 k) (hx : 0 ≤ x) (hx2 : x ≤ 255) : bits .or .u64 u (x * B256 k) = u + x * B256 k := by
  have hm : B256 (k + 1) ≤ B256 8 := B256_mono _ _ (by omega)
  rw [B256_8] at hm
  have hpos := B256_pos k
  have hxb : x * B256 k ≤ 255 * B256 k := Int.mul_le_mul_of_nonneg_right hx2 (by omega)
  have hx0 : 0 ≤ x * B256 k := Int.mul_nonneg hx (by omega)
  simp only [B256] at hm
  rw [u64_or u _ hu (by omega) hx0 (by omega)]
  obtain ⟨a, rfl⟩ := Int.eq_ofNat_of_zero_le hu
  obtain ⟨b, rfl⟩ := Int.eq_ofNat_of_zero_le hx
  rw [B256_eq] at hu2 ⊢
  have e : ((b : Int) * ((2 ^ (8 * k) : Nat) : Int)).toNat = 2 ^ (8 * k) * b := by
    rw [← Int.natCast_mul, Int.toNat_natCast, Nat.mul_comm]
  rw [e, Int.toNat_natCast, Nat.or_comm, ← Nat.two_pow_add_eq_or_of_lt (by omega)]
  rw [Int.natCast_add, Int.natCast_mul, Int.mul_comm]
  omega

end Go.Proofs.Ytoddemcmmijoaaa
