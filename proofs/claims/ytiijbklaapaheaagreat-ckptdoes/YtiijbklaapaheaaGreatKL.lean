/- Several texts as one. -/
import Derived.Test.YtiijbklaapaheaaGreatKU
import Derived.Deep.RegionWith
import Derived.Test.YtiijbklaapaheaaGreatKK

/- Clone. -/
namespace Go.Proofs.YtiijbklaapaheaaGreat
open Go.RowKit
set_option maxRecDepth 100000

/-- A flash's blocks, cell by cell. -/
def Fl.cellAt (F : Fl) (t : Nat) : Value :=
  if t % 33 = 32 then .int .i64 (F.wear (t / 33)) else if t % 33 % 2 = 0 then .int .i64 (F.st (t / 33) (t % 33 / 2)) else .string (F.bs (t / 33) (t % 33 / 2))
def Fl.cellsL (F : Fl) : List Value := (List.range (F.n * 33)).map F.cellAt
theorem cellsL_length (F : Fl) : F.cellsL.length = F.n * 33 := by simp [Fl.cellsL]
theorem cellsL_at (F : Fl) (t : Nat) (h : t < F.n * 33) : F.cellsL[t]? = some (F.cellAt t) := by
  unfold Fl.cellsL
  rw [List.getElem?_map, List.getElem?_range h]
  rfl
theorem cellAt_st (F : Fl) (i j : Nat) (hj : j < 16) : F.cellAt (i * 33 + j * 2) = .int .i64 (F.st i j) := by
  have a : (i * 33 + j * 2) % 33 = j * 2 := by omega
  have b : (i * 33 + j * 2) / 33 = i := by omega
  unfold Fl.cellAt
  rw [a, b, if_neg (by omega), if_pos (by omega), show j * 2 / 2 = j by omega]
theorem cellAt_bs (F : Fl) (i j : Nat) (hj : j < 16) : F.cellAt (i * 33 + j * 2 + 1) = .string (F.bs i j) := by
  have a : (i * 33 + j * 2 + 1) % 33 = j * 2 + 1 := by omega
  have b : (i * 33 + j * 2 + 1) / 33 = i := by omega
  unfold Fl.cellAt
  rw [a, b, if_neg (by omega), if_neg (by omega), show (j * 2 + 1) / 2 = j by omega]
theorem cellAt_wear (F : Fl) (i : Nat) : F.cellAt (i * 33 + 32) = .int .i64 (F.wear i) := by
  have a : (i * 33 + 32) % 33 = 32 := by omega
  have b : (i * 33 + 32) / 33 = i := by omega
  unfold Fl.cellAt
  rw [a, b, if_pos rfl]
theorem IsFl.cellAt {w : World} {g h cap : Nat} {F : Fl} (H : IsFl w g h cap F) (t : Nat) (ht : t < F.n * 33) : w.cell? ⟨g, t, none⟩ = some (F.cellAt t) := by
  obtain ⟨i, r, rfl, hr⟩ : ∃ i r, t = i * 33 + r ∧ r < 33 := ⟨t / 33, t % 33, by omega, by omega⟩
  by_cases h32 : r = 32
  · subst h32
    rw [cellAt_wear]; exact H.wear i (by omega)
  · by_cases h2 : r % 2 = 0
    · obtain ⟨j, rfl⟩ : ∃ j, r = j * 2 := ⟨r / 2, by omega⟩
      rw [cellAt_st F i j (by omega)]; exact H.st i j (by omega) (by omega)
    · obtain ⟨j, rfl⟩ : ∃ j, r = j * 2 + 1 := ⟨r / 2, by omega⟩
      rw [← Nat.add_assoc, cellAt_bs F i j (by omega)]; exact H.bs i j (by omega) (by omega)
theorem cellsL_one (F : Fl) : ∀ u ∈ F.cellsL, u.oneCell' = true := by
  intro u hu
  simp only [Fl.cellsL, List.mem_map] at hu
  obtain ⟨t, _, rfl⟩ := hu
  unfold Fl.cellAt
  (repeat' split) <;> rfl

end Go.Proofs.YtiijbklaapaheaaGreat

/- The document's flash in memory, and its small calls. -/
namespace Go.Proofs.YtiijbklaapaheaaGreat
open Go.RowKit
set_option maxRecDepth 100000

/-- Bytes that are seen, in no block of Av. -/
def SeesA (Av : Nat → Prop) (w : World) (v : Value) (zs : List Int) : Prop := Sees w .u8 v zs ∧ ∀ a l c, v = .slice (some a) l c → ¬ Av a.block

theorem SeesA.upd {Av S : Nat → Prop} {N : Nat} {w w' : World} {v : Value} {zs : List Int} (h : SeesA Av w v zs) (hu : Upd S N w w') (hN : w.heap.size ≤ N) (hS : ∀ k, k < w.heap.size → ¬ Av k → ¬ S k) : SeesA Av w' v zs := by
  refine ⟨?_, h.2⟩
  obtain ⟨ao, cap, rfl, hl, hn, ha⟩ := h.1
  refine ⟨ao, cap, rfl, hl, hn, fun a e t ht => ?_⟩
  subst e
  have hc := ha a rfl t ht
  have hb := World.block_lt_of_cell? w _ hc
  rw [hu.cell (p := a.add t) (by omega) (hS _ hb (by have : (a.add t).block = a.block := by (unfold Addr.add; split <;> simp_all)
                                                     rw [this]; exact h.2 a _ _ rfl))]
  exact hc

/-- One block's sixteen pages. -/
def PgAt (w : World) (b : Nat) (st : Nat → Int) (bv : Nat → Value) : Prop :=
  ∀ j, j < 16 → w.cell? ⟨b, j * 3, none⟩ = some (.bool (decide (st j ≠ 0))) ∧ w.cell? ⟨b, j * 3 + 1, none⟩ = some (.bool (decide (st j = 1))) ∧ w.cell? ⟨b, j * 3 + 2, none⟩ = some (bv j)

/-- The blocks that its calls write. -/
def Three (hr gp gw : Nat) (S : Nat → Prop) : Nat → Prop := fun k => k = hr ∨ k = gp ∨ k = gw ∨ S k

structure IsRf (w : World) (S : Nat → Prop) (hr gp gw cp cw : Nat) (pb cb : Nat → Nat) (bv : Nat → Nat → Value) (F : Fl) (kp : Int) : Prop where
  d1 : hr ≠ gp
  d2 : hr ≠ gw
  d3 : gp ≠ gw
  s1 : ¬ S hr
  s2 : ¬ S gp
  s3 : ¬ S gw
  le : F.n ≤ 1024
  pos : 0 < F.n
  fitp : F.n ≤ cp
  fitw : F.n ≤ cw
  c0 : w.cell? ⟨hr, 0, none⟩ = some (.slice (some ⟨gp, 0, none⟩) F.n cp)
  c1 : w.cell? ⟨hr, 1, none⟩ = some (.slice (some ⟨gw, 0, none⟩) F.n cw)
  c2 : w.cell? ⟨hr, 2, none⟩ = some (.int .i64 F.cnt)
  c3 : w.cell? ⟨hr, 3, none⟩ = some (.int .i64 kp)
  c4 : w.cell? ⟨hr, 4, none⟩ = some (.bool F.down)
  frR : ∀ o, w.frozen? ⟨hr, o, none⟩ = false
  frP : ∀ o, w.frozen? ⟨gp, o, none⟩ = false
  frW : ∀ o, w.frozen? ⟨gw, o, none⟩ = false
  wear : ∀ i, i < F.n → w.cell? ⟨gw, i, none⟩ = some (.int .i64 (F.wear i))
  page : ∀ i, i < F.n → w.cell? ⟨gp, i, none⟩ = some (.slice (some ⟨pb i, 0, none⟩) 16 (cb i))
  room : ∀ i, i < F.n → 16 ≤ cb i
  away : ∀ i, i < F.n → ¬ Three hr gp gw S (pb i)
  cells : ∀ i, i < F.n → PgAt w (pb i) (F.st i) (bv i)
  shape : ∀ i j, i < F.n → j < 16 → ∃ a l c, bv i j = .slice a l c
  bytes : ∀ i j, i < F.n → j < 16 → F.st i j = 2 → SeesA (Three hr gp gw S) w (bv i j) (bytesOf (F.bs i j))
  keep : F.cnt ≠ 0 → F.keep = kp % 3
  cnt0 : 0 ≤ F.cnt
  cnt1 : F.cnt ≤ 9223372036854775807
  full : ∀ i j, i < F.n → j < 16 → F.st i j = 2 → (F.bs i j).size = 256
  stOk : ∀ i j, i < F.n → j < 16 → F.st i j = 0 ∨ F.st i j = 1 ∨ F.st i j = 2

theorem IsRf.rlt {w : World} {S : Nat → Prop} {hr gp gw cp cw : Nat} {pb cb : Nat → Nat} {bv : Nat → Nat → Value} {F : Fl} {kp : Int} (H : IsRf w S hr gp gw cp cw pb cb bv F kp) : hr < w.heap.size ∧ gp < w.heap.size ∧ gw < w.heap.size ∧ ∀ i, i < F.n → pb i < w.heap.size :=
  ⟨World.block_lt_of_cell? w _ H.c0, World.block_lt_of_cell? w _ (H.page 0 H.pos), World.block_lt_of_cell? w _ (H.wear 0 H.pos), fun i hi => World.block_lt_of_cell? w _ (H.cells i hi 0 (by omega)).1⟩

/-- Other blocks are written. -/
theorem IsRf.upd {w w' : World} {S S' : Nat → Prop} {hr gp gw cp cw N : Nat} {pb cb : Nat → Nat} {bv : Nat → Nat → Value} {F : Fl} {kp : Int} (H : IsRf w S hr gp gw cp cw pb cb bv F kp) (hu : Upd S' N w w') (hN : w.heap.size ≤ N) (hS : ∀ k, k < w.heap.size → S' k → S k) : IsRf w' S hr gp gw cp cw pb cb bv F kp := by
  obtain ⟨l1, l2, l3, l4⟩ := H.rlt
  have cr : ∀ o, w'.cell? ⟨hr, o, none⟩ = w.cell? ⟨hr, o, none⟩ := fun o => hu.cell (p := ⟨hr, o, none⟩) (by show hr < N; omega) (fun c => H.s1 (hS _ l1 c))
  have cpg : ∀ o, w'.cell? ⟨gp, o, none⟩ = w.cell? ⟨gp, o, none⟩ := fun o => hu.cell (p := ⟨gp, o, none⟩) (by show gp < N; omega) (fun c => H.s2 (hS _ l2 c))
  have cwr : ∀ o, w'.cell? ⟨gw, o, none⟩ = w.cell? ⟨gw, o, none⟩ := fun o => hu.cell (p := ⟨gw, o, none⟩) (by show gw < N; omega) (fun c => H.s3 (hS _ l3 c))
  have fr : ∀ b o, b < w.heap.size → ¬ S b → w'.frozen? ⟨b, o, none⟩ = w.frozen? ⟨b, o, none⟩ := fun b o hb hs => hu.frozen (p := ⟨b, o, none⟩) (by show b < N; omega) (fun c => hs (hS _ hb c))
  refine ⟨H.d1, H.d2, H.d3, H.s1, H.s2, H.s3, H.le, H.pos, H.fitp, H.fitw, by rw [cr]; exact H.c0, by rw [cr]; exact H.c1, by rw [cr]; exact H.c2, by rw [cr]; exact H.c3, by rw [cr]; exact H.c4, fun o => by rw [fr _ _ l1 H.s1]; exact H.frR o, fun o => by rw [fr _ _ l2 H.s2]; exact H.frP o, fun o => by rw [fr _ _ l3 H.s3]; exact H.frW o,
    fun i hi => by rw [cwr]; exact H.wear i hi, fun i hi => by rw [cpg]; exact H.page i hi, H.room, H.away, fun i hi j hj => ?_, H.shape, fun i j hi hj h2 => (H.bytes i j hi hj h2).upd hu hN (fun k hk hn c => hn (Or.inr (Or.inr (Or.inr (hS k hk c))))), H.keep, H.cnt0, H.cnt1, H.full, H.stOk⟩
  have c : ∀ o, w'.cell? ⟨pb i, o, none⟩ = w.cell? ⟨pb i, o, none⟩ := fun o => hu.cell (p := ⟨pb i, o, none⟩) (by show pb i < N; have := l4 i hi; omega) (fun c => H.away i hi (Or.inr (Or.inr (Or.inr (hS _ (l4 i hi) c)))))
  rw [c, c, c]
  exact H.cells i hi j hj

theorem IsRf.below {w w' : World} {S : Nat → Prop} {hr gp gw cp cw : Nat} {pb cb : Nat → Nat} {bv : Nat → Nat → Value} {F : Fl} {kp : Int} (H : IsRf w S hr gp gw cp cw pb cb bv F kp) (hb : Below w.heap.size w w') : IsRf w' S hr gp gw cp cw pb cb bv F kp :=
  H.upd (S' := fun _ => False) (Upd.of hb) (Nat.le_refl _) (fun _ _ c => c.elim)

set_option maxHeartbeats 400000 in
theorem how_any (k : Int) (w : World) : Calls Tryz.prog 52 #[.int .i64 k] w fun e w' => e = .returned (.int .i64 (k % 3)) ∧ w = w' := by
  go_enter Tryz.func52, Tryz.ntmps52
  go_wp2
  go_ret
  exact ⟨ret_int (keep_mod k), rfl⟩

variable {w : World} {S : Nat → Prop} {hr gp gw cp cw : Nat} {pb cb : Nat → Nat} {bv : Nat → Nat → Value} {F : Fl} {kp : Int}

/-- look: 7, 1 or 0. -/
def Fl.look (F : Fl) (i j : Int) : Int := if F.down = true then 7 else if F.within i j then 0 else 1

set_option maxHeartbeats 400000 in
theorem look_any (H : IsRf w S hr gp gw cp cw pb cb bv F kp) (i j : Int) :
    Calls Tryz.prog 50 #[P0 hr, .int .i64 i, .int .i64 j] w fun e w' => e = .returned (.int .i64 (F.look i j)) ∧ w = w' := by
  have h0 := H.c0; have h4 := H.c4
  unfold Fl.look
  clear H
  by_cases hd : F.down = true
  · rw [hd] at h4
    rw [if_pos hd]
    clear hd
    go_enter Tryz.func50, Tryz.ntmps50
    go_wp2
    go_ret
    exact ⟨rfl, rfl⟩
  rw [if_neg hd]
  have hd' : F.down = false := by simpa using hd
  rw [hd'] at h4
  clear hd hd'
  by_cases hw : F.within i j
  · rw [if_pos hw]
    obtain ⟨a1, a2, a3, a4⟩ := hw
    go_enter Tryz.func50, Tryz.ntmps50
    go_wp2
    go_ret
    exact ⟨rfl, rfl⟩
  · rw [if_neg hw]
    by_cases a1 : i < 0
    · clear hw
      go_enter Tryz.func50, Tryz.ntmps50
      go_wp2
      go_ret
      exact ⟨rfl, rfl⟩
    by_cases a2 : (F.n : Int) ≤ i
    · clear hw
      go_enter Tryz.func50, Tryz.ntmps50
      go_wp2
      go_ret
      exact ⟨rfl, rfl⟩
    by_cases a3 : j < 0
    · clear hw
      go_enter Tryz.func50, Tryz.ntmps50
      go_wp2
      go_ret
      exact ⟨rfl, rfl⟩
    have a4 : 16 ≤ j := by unfold Fl.within at hw; omega
    clear hw
    go_enter Tryz.func50, Tryz.ntmps50
    go_wp2
    go_ret
    exact ⟨rfl, rfl⟩

/-- A page, as 'at' tells of it. -/
def Fl.atE (F : Fl) (i j : Nat) : Int := if F.st i j = 0 then 21 else if F.st i j = 1 then 22 else 0

set_option maxHeartbeats 800000 in
theorem at_any (H : IsRf w S hr gp gw cp cw pb cb bv F kp) (i j : Nat) (hi : i < F.n) (hj : j < 16) :
    Calls Tryz.prog 57 #[P0 hr, .int .i64 i, .int .i64 j] w fun e w' => e = .returned (.int .i64 (F.atE i j)) ∧ Below w.heap.size w w' := by
  have h0 := H.c0; have h1 := H.page i hi; have h2 := H.room i hi; have h3 := H.fitp
  obtain ⟨k0, k1, k2⟩ := H.cells i hi j hj
  obtain ⟨ba, bl, bc, hbv⟩ := H.shape i j hi hj
  rw [hbv] at k2
  have hp := H.rlt.2.2.2 i hi
  unfold Fl.atE
  rcases H.stOk i j hi hj with hs | hs | hs
  all_goals
    rw [hs] at k0 k1
    simp only [hs]
    simp at k0 k1
    clear H hs hbv
    go_enter Tryz.func57, Tryz.ntmps57
    go_wp2
    go_ret
    exact ⟨rfl, (Below.refl _ _).alloc (Nat.le_refl _) _⟩

end Go.Proofs.YtiijbklaapaheaaGreat
