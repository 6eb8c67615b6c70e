/- Several texts as one. -/
import Derived.WalkKit
import Derived.Laws.BitsAllLaws
import Derived.Laws.AppendOwnNone
import Derived.Laws.IdiomStrings

/- Plain mathematics of numbers as bytes: how many bytes a number has, its bytes, and back; nothing of the program. -/
namespace Go.Proofs.Ytiijbklaapaheaa
open Go.RowKit
set_option maxRecDepth 100000

theorem hide {p : Prop} (h : p) : Hid p := h
theorem unhide {p : Prop} (h : Hid p) : p := h

/-- How many bytes a number of 64 bits without sign has. -/
def wid (u : Int) : Nat :=
  if u < 1 then 0 else if u < 256 then 1 else if u < 65536 then 2 else if u < 16777216 then 3 else if u < 4294967296 then 4 else if u < 1099511627776 then 5 else if u < 281474976710656 then 6 else if u < 72057594037927936 then 7 else 8

/-- A number without its sign. -/
def mag (x : Int) : Int := if x < 0 then -x else x

/-- The k lowest bytes, the lowest one first. -/
def lowL : Nat → Int → List Int
  | 0, _ => []
  | k + 1, u => u % 256 :: lowL k (u / 256)

/-- What is left of u behind j bytes. -/
def sh : Nat → Int → Int
  | 0, u => u
  | j + 1, u => sh j u / 256

/-- What bytes say, the lowest one first. -/
def valL : List Int → Int
  | [] => 0
  | b :: r => b + 256 * valL r

def B256 : Nat → Int
  | 0 => 1
  | k + 1 => 256 * B256 k

theorem wid_le (u : Int) : wid u ≤ 8 := by unfold wid; (repeat' split) <;> omega

theorem sh_div (j : Nat) (u : Int) : sh j (u / 256) = sh j u / 256 := by
  induction j with
  | zero => rfl
  | succ j ih => simp only [sh, ih]

theorem sh_nonneg (j : Nat) (u : Int) (h : 0 ≤ u) : 0 ≤ sh j u := by
  induction j with
  | zero => exact h
  | succ j ih => simp only [sh]; omega

theorem sh_le (j : Nat) (u : Int) (h : 0 ≤ u) : sh j u ≤ u := by
  induction j with
  | zero => exact Int.le_refl _
  | succ j ih => have := sh_nonneg j u h; simp only [sh]; omega

theorem lowL_snoc (j : Nat) (u : Int) : lowL (j + 1) u = lowL j u ++ [sh j u % 256] := by
  induction j generalizing u with
  | zero => rfl
  | succ j ih => rw [lowL, ih (u / 256)]; simp only [lowL, List.cons_append, sh, sh_div]

theorem lowL_length (k : Nat) (u : Int) : (lowL k u).length = k := by
  induction k generalizing u with
  | zero => rfl
  | succ k ih => simp only [lowL, List.length_cons, ih]

theorem lowL_byte (k : Nat) (u : Int) : ∀ b ∈ lowL k u, 0 ≤ b ∧ b ≤ 255 := by
  induction k generalizing u with
  | zero => intro b hb; simp [lowL] at hb
  | succ k ih =>
    intro b hb
    simp only [lowL, List.mem_cons] at hb
    rcases hb with rfl | hb
    · omega
    · exact ih _ b hb

theorem B256_pos (k : Nat) : 1 ≤ B256 k := by
  induction k with
  | zero => exact Int.le_refl _
  | succ k ih => simp only [B256]; omega

theorem valL_bound (l : List Int) (h : ∀ b ∈ l, 0 ≤ b ∧ b ≤ 255) : 0 ≤ valL l ∧ valL l < B256 l.length := by
  induction l with
  | nil => exact ⟨Int.le_refl _, by decide⟩
  | cons b r ih =>
    have h1 := ih fun x hx => h x (List.mem_cons_of_mem _ hx)
    have h2 := h b (List.mem_cons_self ..)
    simp only [valL, List.length_cons, B256]
    omega

theorem valL_snoc (l : List Int) (x : Int) : valL (l ++ [x]) = valL l + x * B256 l.length := by
  induction l with
  | nil => simp [valL, B256]
  | cons b r ih =>
    simp only [List.cons_append, valL, List.length_cons, B256, ih]
    rw [Int.mul_add, ← Int.mul_assoc, ← Int.mul_assoc, Int.mul_comm x 256]
    omega

theorem valL_low (k : Nat) (u : Int) (h : 0 ≤ u) (hk : u < B256 k) : valL (lowL k u) = u := by
  induction k generalizing u with
  | zero => simp only [B256] at hk; simp only [lowL, valL]; omega
  | succ k ih =>
    simp only [B256] at hk
    simp only [lowL, valL]
    rw [ih (u / 256) (by omega) (by omega)]
    omega

theorem low_valL (l : List Int) (h : ∀ b ∈ l, 0 ≤ b ∧ b ≤ 255) : lowL l.length (valL l) = l := by
  induction l with
  | nil => rfl
  | cons b r ih =>
    have h2 := h b (List.mem_cons_self ..)
    simp only [valL, List.length_cons, lowL]
    have e1 : (b + 256 * valL r) % 256 = b := by omega
    have e2 : (b + 256 * valL r) / 256 = valL r := by omega
    rw [e1, e2, ih fun x hx => h x (List.mem_cons_of_mem _ hx)]

theorem wid_lt (u : Int) (h0 : 0 ≤ u) (h : u < 18446744073709551616) : u < B256 (wid u) := by
  unfold wid
  repeat (first | (split; simp only [B256]; omega) | (simp only [B256]; omega))

theorem wid_bounds (u : Int) (h0 : 0 ≤ u) (h : u < 18446744073709551616) (k : Nat) (hk : wid u = k + 1) : B256 k ≤ u := by
  have h8 := wid_le u
  have hc : k = 0 ∨ k = 1 ∨ k = 2 ∨ k = 3 ∨ k = 4 ∨ k = 5 ∨ k = 6 ∨ k = 7 := by omega
  unfold wid at hk
  rcases hc with rfl | rfl | rfl | rfl | rfl | rfl | rfl | rfl <;> simp only [B256] <;> (repeat' split at hk) <;> omega

/-- A number whose k bytes are as few as will do. -/
theorem wid_of (u : Int) (k : Nat) (h1 : u < B256 (k + 1)) (h0 : B256 k ≤ u) (hk : k ≤ 7) : wid u = k + 1 := by
  have hc : k = 0 ∨ k = 1 ∨ k = 2 ∨ k = 3 ∨ k = 4 ∨ k = 5 ∨ k = 6 ∨ k = 7 := by omega
  unfold wid
  rcases hc with rfl | rfl | rfl | rfl | rfl | rfl | rfl | rfl <;> simp only [B256] at h0 h1 <;> (repeat' split) <;> omega

theorem B256_eq (k : Nat) : B256 k = ((2 ^ (8 * k) : Nat) : Int) := by
  induction k with
  | zero => rfl
  | succ k ih =>
    simp only [B256, ih]
    rw [show 8 * (k + 1) = 8 * k + 8 from by omega, Nat.pow_add]
    omega

theorem B256_mono (j k : Nat) (h : j ≤ k) : B256 j ≤ B256 k := by
  induction k with
  | zero => obtain rfl : j = 0 := by omega
            exact Int.le_refl _
  | succ k ih =>
    by_cases e : j = k + 1
    · subst e; exact Int.le_refl _
    · have := ih (by omega); have := B256_pos k; simp only [B256]; omega

theorem B256_8 : B256 8 = 18446744073709551616 := by rfl

/-- A byte that is laid above what is there. -/
theorem or_low (u x : Int) (k : Nat) (hk : k ≤ 7) (hu : 0 ≤ u) (hu2 : u < B256 k) (hx : 0 ≤ x) (hx2 : x ≤ 255) : bits .or .u64 u (x * B256 k) = u + x * B256 k := by
  have hm : B256 (k + 1) ≤ B256 8 := B256_mono _ _ (by omega)
  rw [B256_8] at hm
  have hpos := B256_pos k
  have hxb : x * B256 k ≤ 255 * B256 k := Int.mul_le_mul_of_nonneg_right hx2 (by omega)
  have hx0 : 0 ≤ x * B256 k := Int.mul_nonneg hx (by omega)
  simp only [B256] at hm
  rw [u64_or u _ hu (by omega) hx0 (by omega)]
  obtain ⟨a, rfl⟩ := Int.eq_ofNat_of_zero_le hu
  obtain ⟨b, rfl⟩ := Int.eq_ofNat_of_zero_le hx
  rw [B256_eq] at hu2 ⊢
  have e : ((b : Int) * ((2 ^ (8 * k) : Nat) : Int)).toNat = 2 ^ (8 * k) * b := by
    rw [← Int.natCast_mul, Int.toNat_natCast, Nat.mul_comm]
  rw [e, Int.toNat_natCast, Nat.or_comm, ← Nat.two_pow_add_eq_or_of_lt (by omega)]
  rw [Int.natCast_add, Int.natCast_mul, Int.mul_comm]
  omega

end Go.Proofs.Ytiijbklaapaheaa

/- What a flash is in memory ('IsFl'), what is kept beside it ('Upd'). -/
namespace Go.Proofs.Ytiijbklaapaheaa
open Go.RowKit
set_option maxRecDepth 100000

/-- All blocks below N but those of S are as they were. -/
structure Upd (S : Nat → Prop) (N : Nat) (w w' : World) : Prop where
  os : w'.os = w.os
  tape : w'.tape = w.tape
  output : w'.output = w.output
  size : w.heap.size ≤ w'.heap.size
  block : ∀ k, k < N → ¬ S k → w'.heap[k]? = w.heap[k]?

theorem Upd.refl (S : Nat → Prop) (N : Nat) (w : World) : Upd S N w w := ⟨rfl, rfl, rfl, Nat.le_refl _, fun _ _ _ => rfl⟩
theorem Upd.trans {S : Nat → Prop} {N : Nat} {a b c : World} (h : Upd S N a b) (k : Upd S N b c) : Upd S N a c :=
  ⟨k.os.trans h.os, k.tape.trans h.tape, k.output.trans h.output, Nat.le_trans h.size k.size, fun i hi hs => (k.block i hi hs).trans (h.block i hi hs)⟩
theorem Upd.mono {S S' : Nat → Prop} {N N' : Nat} {w w' : World} (h : Upd S N w w') (hN : N' ≤ N) (hS : ∀ k, k < N' → S k → S' k) : Upd S' N' w w' :=
  ⟨h.os, h.tape, h.output, h.size, fun k hk hs => h.block k (by omega) (fun c => hs (hS k hk c))⟩
theorem Upd.less {S : Nat → Prop} {N N' : Nat} {w w' : World} (h : Upd S N w w') (hN : N' ≤ N) : Upd S N' w w' := h.mono hN fun _ _ c => c
theorem Upd.drew {S : Nat → Prop} {N : Nat} {a w : World} (h : Upd S N a w) : Upd S N a w.drew := ⟨h.os, h.tape, h.output, h.size, h.block⟩
theorem Upd.alloc {S : Nat → Prop} {N : Nat} {a w : World} (h : Upd S N a w) (hN : N ≤ w.heap.size) (o : Obj) : Upd S N a (w.alloc o) :=
  h.trans ⟨rfl, rfl, rfl, by simp, fun k hk _ => Below.heap_alloc _ _ _ (by omega)⟩
theorem Upd.setCell {S : Nat → Prop} {N : Nat} {a w : World} (h : Upd S N a w) {p : Addr} (hp : S p.block ∨ N ≤ p.block) (u : Value) : Upd S N a (w.setCell p u) :=
  h.trans ⟨rfl, rfl, rfl, by simp [World.setCell], fun k hk hs => Below.heap_setCell _ _ _ _ (by rintro rfl; rcases hp with hp | hp; exact hs hp; omega)⟩
theorem Upd.of {S : Nat → Prop} {B : Nat} {w w' : World} (h : Below B w w') : Upd S B w w' := ⟨h.os, h.tape, h.output, h.size, fun k hk _ => h.block k hk⟩
theorem Upd.below {S : Nat → Prop} {N B : Nat} {w w' : World} (h : Upd S N w w') (hB : B ≤ N) (hS : ∀ k, k < B → ¬ S k) : Below B w w' := ⟨h.os, h.tape, h.output, h.size, fun k hk => h.block k (by omega) (hS k hk)⟩
theorem Upd.cell {S : Nat → Prop} {N : Nat} {w w' : World} (h : Upd S N w w') {p : Addr} (hp : p.block < N) (hs : ¬ S p.block) : w'.cell? p = w.cell? p := World.cell?_of_block (w := w) (h.block p.block hp hs)
theorem Upd.frozen {S : Nat → Prop} {N : Nat} {w w' : World} (h : Upd S N w w') {p : Addr} (hp : p.block < N) (hs : ¬ S p.block) : w'.frozen? p = w.frozen? p := World.frozen?_of_block (w := w) (h.block p.block hp hs)

/-- A flash: blocks of sixteen pages (a page: a state and bytes), wear, fuse, power. -/
structure Fl where
  n : Nat
  st : Nat → Nat → Int
  bs : Nat → Nat → ByteArray
  wear : Nat → Int
  cnt : Int
  keep : Int
  down : Bool

/-- The flash F lies at block h (its struct) and block g (its blocks). -/
structure IsFl (w : World) (g h cap : Nat) (F : Fl) : Prop where
  ne : g ≠ h
  pos : 0 < F.n
  le : F.n ≤ 1024
  fit : F.n ≤ cap
  ptr : w.cell? ⟨h, 0, none⟩ = some (.slice (some ⟨g, 0, none⟩) F.n cap)
  cnt : w.cell? ⟨h, 1, none⟩ = some (.int .i64 F.cnt)
  keep : w.cell? ⟨h, 2, none⟩ = some (.int .i64 F.keep)
  down : w.cell? ⟨h, 3, none⟩ = some (.bool F.down)
  frH : ∀ o, w.frozen? ⟨h, o, none⟩ = false
  st : ∀ i j, i < F.n → j < 16 → w.cell? ⟨g, i * 33 + j * 2, none⟩ = some (.int .i64 (F.st i j))
  bs : ∀ i j, i < F.n → j < 16 → w.cell? ⟨g, i * 33 + j * 2 + 1, none⟩ = some (.string (F.bs i j))
  wear : ∀ i, i < F.n → w.cell? ⟨g, i * 33 + 32, none⟩ = some (.int .i64 (F.wear i))
  frG : ∀ o, w.frozen? ⟨g, o, none⟩ = false

/-- Its two blocks. -/
def Two (g h : Nat) : Nat → Prop := fun k => k = g ∨ k = h

theorem IsFl.hlt {w : World} {g h cap : Nat} {F : Fl} (H : IsFl w g h cap F) : h < w.heap.size := World.block_lt_of_cell? w _ H.ptr
theorem IsFl.glt {w : World} {g h cap : Nat} {F : Fl} (H : IsFl w g h cap F) : g < w.heap.size := World.block_lt_of_cell? w _ (H.wear 0 H.pos)

theorem IsFl.keepB {w w' : World} {g h cap : Nat} {F : Fl} (H : IsFl w g h cap F) (hg : w'.heap[g]? = w.heap[g]?) (hh : w'.heap[h]? = w.heap[h]?) : IsFl w' g h cap F := by
  have cg : ∀ o, w'.cell? ⟨g, o, none⟩ = w.cell? ⟨g, o, none⟩ := fun o => World.cell?_of_block (w := w) hg
  have ch : ∀ o, w'.cell? ⟨h, o, none⟩ = w.cell? ⟨h, o, none⟩ := fun o => World.cell?_of_block (w := w) hh
  have fg : ∀ o, w'.frozen? ⟨g, o, none⟩ = w.frozen? ⟨g, o, none⟩ := fun o => World.frozen?_of_block (w := w) hg
  have fh : ∀ o, w'.frozen? ⟨h, o, none⟩ = w.frozen? ⟨h, o, none⟩ := fun o => World.frozen?_of_block (w := w) hh
  refine ⟨H.ne, H.pos, H.le, H.fit, ?_, ?_, ?_, ?_, fun o => by rw [fh, H.frH], fun i j hi hj => ?_, fun i j hi hj => ?_, fun i hi => ?_, fun o => by rw [fg, H.frG]⟩
  · rw [ch, H.ptr]
  · rw [ch, H.cnt]
  · rw [ch, H.keep]
  · rw [ch, H.down]
  · rw [cg, H.st i j hi hj]
  · rw [cg, H.bs i j hi hj]
  · rw [cg, H.wear i hi]

theorem IsFl.below {w w' : World} {g h cap : Nat} {F : Fl} (H : IsFl w g h cap F) (hb : Below w.heap.size w w') : IsFl w' g h cap F :=
  H.keepB (hb.block g H.glt) (hb.block h H.hlt)
theorem IsFl.upd {w w' : World} {g h cap N : Nat} {F : Fl} {S : Nat → Prop} (H : IsFl w g h cap F) (hb : Upd S N w w') (hN : w.heap.size ≤ N) (hg : ¬ S g) (hh : ¬ S h) : IsFl w' g h cap F :=
  H.keepB (hb.block g (by have := H.glt; omega) hg) (hb.block h (by have := H.hlt; omega) hh)
theorem IsFl.alloc {w : World} {g h cap : Nat} {F : Fl} (H : IsFl w g h cap F) (o : Obj) : IsFl (w.alloc o) g h cap F :=
  H.below ((Below.refl _ _).alloc (Nat.le_refl _) o)
theorem IsFl.drew {w : World} {g h cap : Nat} {F : Fl} (H : IsFl w g h cap F) : IsFl w.drew g h cap F := H.keepB rfl rfl

theorem addr_ne {b b' o o' : Nat} (h : b ≠ b' ∨ o ≠ o') : (⟨b, o, none⟩ : Addr) ≠ ⟨b', o', none⟩ := by
  intro e; simp only [Addr.mk.injEq, and_true] at e; omega

theorem cs_other {w : World} {a b : Addr} {v : Value} (h : a ≠ b) : (w.setCell a v).cell? b = w.cell? b := World.cell?_setCell_other w a b v h
theorem cs_same {w : World} {a : Addr} {v u : Value} (h : w.cell? a = some u) : (w.setCell a v).cell? a = some v := World.cell?_setCell_same w a v h

/-- A cell of another block is written. -/
theorem IsFl.other {w : World} {g h cap : Nat} {F : Fl} (H : IsFl w g h cap F) (b o : Nat) (u : Value) (hg : b ≠ g) (hh : b ≠ h) : IsFl (w.setCell ⟨b, o, none⟩ u) g h cap F :=
  H.keepB (Below.heap_setCell _ _ _ _ (by simpa using hg.symm)) (Below.heap_setCell _ _ _ _ (by simpa using hh.symm))

theorem IsFl.setCnt {w : World} {g h cap : Nat} {F : Fl} (H : IsFl w g h cap F) (c : Int) : IsFl (w.setCell ⟨h, 1, none⟩ (.int .i64 c)) g h cap { F with cnt := c } := by
  have hn := H.ne
  have cg : ∀ o, (w.setCell ⟨h, 1, none⟩ (.int .i64 c)).cell? ⟨g, o, none⟩ = w.cell? ⟨g, o, none⟩ := fun o => cs_other (addr_ne (Or.inl hn.symm))
  have ch : ∀ o, o ≠ 1 → (w.setCell ⟨h, 1, none⟩ (.int .i64 c)).cell? ⟨h, o, none⟩ = w.cell? ⟨h, o, none⟩ := fun o ho => cs_other (addr_ne (Or.inr ho.symm))
  exact ⟨hn, H.pos, H.le, H.fit, by rw [ch 0 (by decide)]; exact H.ptr, cs_same H.cnt, by rw [ch 2 (by decide)]; exact H.keep, by rw [ch 3 (by decide)]; exact H.down, fun o => by rw [World.frozen?_setCell]; exact H.frH o,
    fun i j hi hj => by rw [cg]; exact H.st i j hi hj, fun i j hi hj => by rw [cg]; exact H.bs i j hi hj, fun i hi => by rw [cg]; exact H.wear i hi, fun o => by rw [World.frozen?_setCell]; exact H.frG o⟩
theorem IsFl.setKeep {w : World} {g h cap : Nat} {F : Fl} (H : IsFl w g h cap F) (c : Int) : IsFl (w.setCell ⟨h, 2, none⟩ (.int .i64 c)) g h cap { F with keep := c } := by
  have hn := H.ne
  have cg : ∀ o, (w.setCell ⟨h, 2, none⟩ (.int .i64 c)).cell? ⟨g, o, none⟩ = w.cell? ⟨g, o, none⟩ := fun o => cs_other (addr_ne (Or.inl hn.symm))
  have ch : ∀ o, o ≠ 2 → (w.setCell ⟨h, 2, none⟩ (.int .i64 c)).cell? ⟨h, o, none⟩ = w.cell? ⟨h, o, none⟩ := fun o ho => cs_other (addr_ne (Or.inr ho.symm))
  exact ⟨hn, H.pos, H.le, H.fit, by rw [ch 0 (by decide)]; exact H.ptr, by rw [ch 1 (by decide)]; exact H.cnt, cs_same H.keep, by rw [ch 3 (by decide)]; exact H.down, fun o => by rw [World.frozen?_setCell]; exact H.frH o,
    fun i j hi hj => by rw [cg]; exact H.st i j hi hj, fun i j hi hj => by rw [cg]; exact H.bs i j hi hj, fun i hi => by rw [cg]; exact H.wear i hi, fun o => by rw [World.frozen?_setCell]; exact H.frG o⟩
theorem IsFl.setDown {w : World} {g h cap : Nat} {F : Fl} (H : IsFl w g h cap F) (c : Bool) : IsFl (w.setCell ⟨h, 3, none⟩ (.bool c)) g h cap { F with down := c } := by
  have hn := H.ne
  have cg : ∀ o, (w.setCell ⟨h, 3, none⟩ (.bool c)).cell? ⟨g, o, none⟩ = w.cell? ⟨g, o, none⟩ := fun o => cs_other (addr_ne (Or.inl hn.symm))
  have ch : ∀ o, o ≠ 3 → (w.setCell ⟨h, 3, none⟩ (.bool c)).cell? ⟨h, o, none⟩ = w.cell? ⟨h, o, none⟩ := fun o ho => cs_other (addr_ne (Or.inr ho.symm))
  exact ⟨hn, H.pos, H.le, H.fit, by rw [ch 0 (by decide)]; exact H.ptr, by rw [ch 1 (by decide)]; exact H.cnt, by rw [ch 2 (by decide)]; exact H.keep, cs_same H.down, fun o => by rw [World.frozen?_setCell]; exact H.frH o,
    fun i j hi hj => by rw [cg]; exact H.st i j hi hj, fun i j hi hj => by rw [cg]; exact H.bs i j hi hj, fun i hi => by rw [cg]; exact H.wear i hi, fun o => by rw [World.frozen?_setCell]; exact H.frG o⟩

def Fl.setSt (F : Fl) (i j : Nat) (s : Int) : Fl := { F with st := fun i' j' => if i' = i ∧ j' = j then s else F.st i' j' }
def Fl.setBs (F : Fl) (i j : Nat) (b : ByteArray) : Fl := { F with bs := fun i' j' => if i' = i ∧ j' = j then b else F.bs i' j' }
def Fl.put (F : Fl) (i j : Nat) (s : Int) (b : ByteArray) : Fl := (F.setSt i j s).setBs i j b

theorem IsFl.setSt {w : World} {g h cap : Nat} {F : Fl} (H : IsFl w g h cap F) (i j : Nat) (hi : i < F.n) (hj : j < 16) (s : Int) : IsFl (w.setCell ⟨g, i * 33 + j * 2, none⟩ (.int .i64 s)) g h cap (F.setSt i j s) := by
  have hn := H.ne
  have ch : ∀ o, (w.setCell ⟨g, i * 33 + j * 2, none⟩ (.int .i64 s)).cell? ⟨h, o, none⟩ = w.cell? ⟨h, o, none⟩ := fun o => cs_other (addr_ne (Or.inl hn))
  have cg : ∀ o, o ≠ i * 33 + j * 2 → (w.setCell ⟨g, i * 33 + j * 2, none⟩ (.int .i64 s)).cell? ⟨g, o, none⟩ = w.cell? ⟨g, o, none⟩ := fun o ho => cs_other (addr_ne (Or.inr ho.symm))
  refine ⟨hn, H.pos, H.le, H.fit, by rw [ch]; exact H.ptr, by rw [ch]; exact H.cnt, by rw [ch]; exact H.keep, by rw [ch]; exact H.down, fun o => by rw [World.frozen?_setCell]; exact H.frH o,
    fun i' j' hi' hj' => ?_, fun i' j' hi' hj' => ?_, fun i' hi' => ?_, fun o => by rw [World.frozen?_setCell]; exact H.frG o⟩
  · show _ = some (Value.int .i64 (if i' = i ∧ j' = j then s else F.st i' j'))
    by_cases c : i' = i ∧ j' = j
    · obtain ⟨rfl, rfl⟩ := c
      rw [if_pos ⟨rfl, rfl⟩]
      exact cs_same (H.st i' j' hi hj)
    · rw [if_neg c, cg _ (by omega)]; exact H.st i' j' hi' hj'
  · rw [cg _ (by omega)]; exact H.bs i' j' hi' hj'
  · rw [cg _ (by omega)]; exact H.wear i' hi'
theorem IsFl.setBs {w : World} {g h cap : Nat} {F : Fl} (H : IsFl w g h cap F) (i j : Nat) (hi : i < F.n) (hj : j < 16) (s : ByteArray) : IsFl (w.setCell ⟨g, i * 33 + j * 2 + 1, none⟩ (.string s)) g h cap (F.setBs i j s) := by
  have hn := H.ne
  have ch : ∀ o, (w.setCell ⟨g, i * 33 + j * 2 + 1, none⟩ (.string s)).cell? ⟨h, o, none⟩ = w.cell? ⟨h, o, none⟩ := fun o => cs_other (addr_ne (Or.inl hn))
  have cg : ∀ o, o ≠ i * 33 + j * 2 + 1 → (w.setCell ⟨g, i * 33 + j * 2 + 1, none⟩ (.string s)).cell? ⟨g, o, none⟩ = w.cell? ⟨g, o, none⟩ := fun o ho => cs_other (addr_ne (Or.inr ho.symm))
  refine ⟨hn, H.pos, H.le, H.fit, by rw [ch]; exact H.ptr, by rw [ch]; exact H.cnt, by rw [ch]; exact H.keep, by rw [ch]; exact H.down, fun o => by rw [World.frozen?_setCell]; exact H.frH o,
    fun i' j' hi' hj' => ?_, fun i' j' hi' hj' => ?_, fun i' hi' => ?_, fun o => by rw [World.frozen?_setCell]; exact H.frG o⟩
  · rw [cg _ (by omega)]; exact H.st i' j' hi' hj'
  · show _ = some (Value.string (if i' = i ∧ j' = j then s else F.bs i' j'))
    by_cases c : i' = i ∧ j' = j
    · obtain ⟨rfl, rfl⟩ := c
      rw [if_pos ⟨rfl, rfl⟩]
      exact cs_same (H.bs i' j' hi hj)
    · rw [if_neg c, cg _ (by omega)]; exact H.bs i' j' hi' hj'
  · rw [cg _ (by omega)]; exact H.wear i' hi'

/-- A page is written. -/
theorem IsFl.put {w : World} {g h cap : Nat} {F : Fl} (H : IsFl w g h cap F) (i j : Nat) (hi : i < F.n) (hj : j < 16) (s : Int) (b : ByteArray) : IsFl ((w.setCell ⟨g, i * 33 + j * 2, none⟩ (.int .i64 s)).setCell ⟨g, i * 33 + j * 2 + 1, none⟩ (.string b)) g h cap (F.put i j s b) :=
  (H.setSt i j hi hj s).setBs i j hi hj b

def Fl.setWear (F : Fl) (i : Nat) (x : Int) : Fl := { F with wear := fun i' => if i' = i then x else F.wear i' }
theorem IsFl.setWear {w : World} {g h cap : Nat} {F : Fl} (H : IsFl w g h cap F) (i : Nat) (hi : i < F.n) (x : Int) : IsFl (w.setCell ⟨g, i * 33 + 32, none⟩ (.int .i64 x)) g h cap (F.setWear i x) := by
  have hn := H.ne
  have ch : ∀ o, (w.setCell ⟨g, i * 33 + 32, none⟩ (.int .i64 x)).cell? ⟨h, o, none⟩ = w.cell? ⟨h, o, none⟩ := fun o => cs_other (addr_ne (Or.inl hn))
  have cg : ∀ o, o ≠ i * 33 + 32 → (w.setCell ⟨g, i * 33 + 32, none⟩ (.int .i64 x)).cell? ⟨g, o, none⟩ = w.cell? ⟨g, o, none⟩ := fun o ho => cs_other (addr_ne (Or.inr ho.symm))
  refine ⟨hn, H.pos, H.le, H.fit, by rw [ch]; exact H.ptr, by rw [ch]; exact H.cnt, by rw [ch]; exact H.keep, by rw [ch]; exact H.down, fun o => by rw [World.frozen?_setCell]; exact H.frH o,
    fun i' j' hi' hj' => ?_, fun i' j' hi' hj' => ?_, fun i' hi' => ?_, fun o => by rw [World.frozen?_setCell]; exact H.frG o⟩
  · rw [cg _ (by omega)]; exact H.st i' j' hi' hj'
  · rw [cg _ (by omega)]; exact H.bs i' j' hi' hj'
  · show _ = some (Value.int .i64 (if i' = i then x else F.wear i'))
    by_cases c : i' = i
    · subst c; rw [if_pos rfl]; exact cs_same (H.wear i' hi)
    · rw [if_neg c, cg _ (by omega)]; exact H.wear i' hi'

/-- What no call made: nil, or a struct that has no blocks. -/
def IsNo (w : World) (v : Value) : Prop := v = .pointer none ∨ ∃ h, v = .pointer (some ⟨h, 0, none⟩) ∧ w.cell? ⟨h, 0, none⟩ = some (.slice none 0 0)

end Go.Proofs.Ytiijbklaapaheaa
