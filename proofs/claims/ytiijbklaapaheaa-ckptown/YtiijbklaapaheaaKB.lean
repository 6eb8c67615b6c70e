/- Several texts as one. -/
import Derived.Test.YtiijbklaapaheaaM6
import Derived.Test.YtiijbklaapaheaaCB

/- begun. -/
namespace Go.Proofs.Ytiijbklaapaheaa
open Go.RowKit
set_option maxRecDepth 100000

/-- A conversion of a literal's slice to its own type marks the place behind its block. -/
theorem conv_mark (w : World) (C : Array Value) (l c : Nat) : (convert 22 22 (.slice (some ⟨w.heap.size, 0, none⟩) l c)).run Try.prog (w.alloc (.cells C 5)) = .ok (.slice (some ⟨w.heap.size, 0, none⟩) l c) (w.alloc (.cells C 5 (C.size, C.size + 1))) := by
  have hsh : (w.alloc (.cells C 5)).shape? w.heap.size = some (5, C.size) := by
    have : (w.alloc (.cells C 5)).heap[w.heap.size]? = some (.cells C 5) := by
      show (w.heap.push (.cells C 5))[w.heap.size]? = _
      simp
    unfold World.shape?
    rw [this]
  have hfr : ∀ n : Nat, (w.alloc (.cells C 5)).freeze ⟨w.heap.size, n, none⟩ 1 = w.alloc (.cells C 5 (n, n + 1)) := fun n => by
    have hm : ∀ (a : Array Obj) (x : Obj) (f : Obj → Obj), (a.push x).modify a.size f = a.push (f x) := by
      intro a x f
      apply Array.ext
      · simp
      · intro i h1 h2
        simp only [Array.getElem_modify, Array.getElem_push]
        by_cases h : a.size = i
        · subst h
          simp
        · have hi : i < a.size := by simp at h1; omega
          simp [h, hi]
    unfold World.freeze
    rw [if_neg (by decide)]
    show ({ w.alloc (.cells C 5) with heap := (w.heap.push (.cells C 5)).modify w.heap.size _ } : World) = _
    rw [hm]
    rfl
  simp [convert, run_underlying Try.underlying22, run_underlying Try.underlying5, markStringish, hsh]
  exact hfr _

/-- Bytes under a marked block. -/
theorem sees_mark (w : World) (zs : List Int) (e : TypeId) (n : Nat) (m : Nat × Nat) (hn : n = zs.length) : Sees (w.alloc (.cells (ints .u8 zs).toArray e m)) .u8 (.slice (some ⟨w.heap.size, 0, none⟩) n n) zs := by
  subst hn
  refine ⟨_, zs.length, rfl, Nat.le_refl _, (fun h => by cases h), fun a h t ht => ?_⟩
  obtain rfl := Option.some.inj h
  have hadd : (⟨w.heap.size, 0, none⟩ : Addr).add t = ⟨w.heap.size, t, none⟩ := by unfold Addr.add; split <;> simp_all
  rw [hadd, World.cell?_alloc_mark]
  simp [ints, List.getD, ht]

/-- The flash of 'begun', step by step. -/
def bF1 : Fl := (Fl.blank 2).changed (putA 1 3) 2 (strOf (pageL [97]))
def bF2 : Fl := { bF1 with cnt := 1, keep := 1 % 3 }
def bF3 : Fl := bF2.changed (anewA 1) 0 ⟨#[]⟩
def bF4 : Fl := { bF3 with down := false }
theorem b1_st : bF1.st 1 3 = 2 := rfl
theorem b1_bs : bF1.bs 1 3 = strOf (pageL [97]) := rfl
theorem b2_code : bF2.code = 7 := rfl
theorem b3_down : bF3.down = true := rfl
theorem b4_st : bF4.st 1 0 = 1 := rfl
theorem byt97 : Byt [97] := by intro b hb; simp at hb; omega
theorem pageL_byt {zs : List Int} (h : Byt zs) : Byt (pageL zs) := h.append fun x hx => by rw [List.mem_replicate] at hx; omega
theorem pageL_length {zs : List Int} (h : zs.length ≤ 256) : (pageL zs).length = 256 := by unfold pageL; rw [List.length_append, List.length_replicate]; omega

end Go.Proofs.Ytiijbklaapaheaa

/- Program, Erase and Read at whatever arguments. -/
namespace Go.Proofs.Ytiijbklaapaheaa
open Go.RowKit
set_option maxRecDepth 100000

/-- There is such a block, such a page. -/
def Fl.within (F : Fl) (i j : Int) : Prop := 0 ≤ i ∧ i < F.n ∧ 0 ≤ j ∧ j < 16
instance (F : Fl) (i j : Int) : Decidable (F.within i j) := by unfold Fl.within; infer_instance

def Fl.prog (F : Fl) (i j : Int) (zs : List Int) : Int × Fl :=
  if F.down = true then (7, F) else if ¬ F.within i j then (1, F) else if 256 < zs.length then (1, F) else if F.st i.toNat j.toNat ≠ 0 then (20, F)
  else (F.code, F.changed (putA i.toNat j.toNat) 2 (strOf (pageL zs)))
def Fl.erase (F : Fl) (i : Int) : Int × Fl :=
  if F.down = true then (7, F) else if ¬ F.within i 0 then (1, F) else (F.code, F.changed (anewA i.toNat) 0 ⟨#[]⟩)
def Fl.readE (F : Fl) (i j : Int) : Int :=
  if F.down = true then 7 else if ¬ F.within i j then 1 else if F.st i.toNat j.toNat = 2 then 0 else if F.st i.toNat j.toNat = 1 then 22 else 21
def Fl.readB (F : Fl) (i j : Int) : List Int := if F.readE i j = 0 then bytesOf (F.bs i.toNat j.toNat) else []

theorem nat_of {i : Int} (h : 0 ≤ i) : ∃ n : Nat, i = n := ⟨i.toNat, by omega⟩

theorem prog_all {g h cap : Nat} {F : Fl} {w : World} (H : IsFl w g h cap F) (hc0 : 0 ≤ F.cnt) (hm : F.cnt ≤ 9223372036854775807) (i j : Int) (bv : Value) (zs : List Int) (hz : Sees w .u8 bv zs) (hby : Byt zs) :
    Calls Try.prog 21 #[P0 h, .int .i64 i, .int .i64 j, bv] w fun e w' => e = .returned (.int .i64 (F.prog i j zs).1) ∧ IsFl w' g h cap (F.prog i j zs).2 ∧ Upd (Two g h) w.heap.size w w' := by
  unfold Fl.prog
  by_cases hd : F.down = true
  · rw [if_pos hd]
    refine (prog_err (by decide) (find_down H hd i j)).mono ?_
    rintro e w' ⟨rfl, hb⟩
    exact ⟨rfl, H.below hb, Upd.of hb⟩
  rw [if_neg hd]
  have hd' : F.down = false := by simpa using hd
  by_cases hw : F.within i j
  · rw [if_neg (not_not_intro hw)]
    obtain ⟨h1, h2, h3, h4⟩ := hw
    obtain ⟨i, rfl⟩ := nat_of h1
    obtain ⟨j, rfl⟩ := nat_of h3
    simp only [Int.toNat_natCast]
    obtain ⟨ao, cp, hv, hlc, hnil, hcell⟩ := id hz
    by_cases hl : 256 < zs.length
    · rw [if_pos hl]
      subst hv
      refine (prog_long H hd' i j (by omega) (by omega) ao zs.length cp hl).mono ?_
      rintro e w' ⟨rfl, hb⟩
      exact ⟨rfl, H.below hb, Upd.of hb⟩
    rw [if_neg hl]
    by_cases hs : F.st i j = 0
    · rw [if_neg (not_not_intro hs)]
      exact prog_ok H hc0 hm hd' i j (by omega) (by omega) bv zs hz hby (by omega) hs
    · rw [if_pos hs]
      subst hv
      refine (prog_used H hd' i j (by omega) (by omega) ao zs.length cp (by omega) hs).mono ?_
      rintro e w' ⟨rfl, hb⟩
      exact ⟨rfl, H.below hb, Upd.of hb⟩
  · rw [if_pos hw]
    refine (prog_err (by decide) (find_arg H hd' i j hw)).mono ?_
    rintro e w' ⟨rfl, hb⟩
    exact ⟨rfl, H.below hb, Upd.of hb⟩

theorem erase_all {g h cap : Nat} {F : Fl} {w : World} (H : IsFl w g h cap F) (hc0 : 0 ≤ F.cnt) (hm : F.cnt ≤ 9223372036854775807) (i : Int) :
    Calls Try.prog 94 #[P0 h, .int .i64 i] w fun e w' => e = .returned (.int .i64 (F.erase i).1) ∧ IsFl w' g h cap (F.erase i).2 ∧ Upd (Two g h) w.heap.size w w' := by
  unfold Fl.erase
  by_cases hd : F.down = true
  · rw [if_pos hd]
    refine (erase_err (by decide) (find_down H hd i 0)).mono ?_
    rintro e w' ⟨rfl, rfl⟩
    exact ⟨rfl, H, Upd.refl _ _ _⟩
  rw [if_neg hd]
  have hd' : F.down = false := by simpa using hd
  by_cases hw : F.within i 0
  · rw [if_neg (not_not_intro hw)]
    obtain ⟨h1, h2, h3, h4⟩ := hw
    obtain ⟨i, rfl⟩ := nat_of h1
    simp only [Int.toNat_natCast]
    exact erase_ok H hc0 hm hd' i (by omega)
  · rw [if_pos hw]
    refine (erase_err (by decide) (find_arg H hd' i 0 hw)).mono ?_
    rintro e w' ⟨rfl, rfl⟩
    exact ⟨rfl, H, Upd.refl _ _ _⟩

theorem read_all {g h cap : Nat} {F : Fl} {w : World} (H : IsFl w g h cap F) (i j : Int) :
    Calls Try.prog 22 #[P0 h, .int .i64 i, .int .i64 j] w fun e w' => ∃ x, e = .returned (.tuple #[x, .int .i64 (F.readE i j)]) ∧ Sees w' .u8 x (F.readB i j) ∧ Below w.heap.size w w' := by
  have key : ∀ er : Int, er ≠ 0 → F.readE i j = er → (Calls Try.prog 22 #[P0 h, .int .i64 i, .int .i64 j] w fun e w' => e = .returned (.tuple #[.slice none 0 0, .int .i64 er]) ∧ w = w') →
      Calls Try.prog 22 #[P0 h, .int .i64 i, .int .i64 j] w fun e w' => ∃ x, e = .returned (.tuple #[x, .int .i64 (F.readE i j)]) ∧ Sees w' .u8 x (F.readB i j) ∧ Below w.heap.size w w' := by
    intro er h0 he hc
    refine hc.mono ?_
    rintro e w' ⟨rfl, rfl⟩
    refine ⟨_, by rw [he], ?_, Below.refl _ _⟩
    unfold Fl.readB
    rw [he, if_neg h0]
    exact Sees.nil _ _
  by_cases hd : F.down = true
  · exact key 7 (by decide) (by unfold Fl.readE; rw [if_pos hd]) (read_err (by decide) (find_down H hd i j))
  have hd' : F.down = false := by simpa using hd
  by_cases hw : F.within i j
  · have hw' := hw
    obtain ⟨h1, h2, h3, h4⟩ := hw
    obtain ⟨i, rfl⟩ := nat_of h1
    obtain ⟨j, rfl⟩ := nat_of h3
    by_cases hs : F.st i j = 2
    · have he : F.readE i j = 0 := by unfold Fl.readE; rw [if_neg hd, if_neg (not_not_intro hw'), Int.toNat_natCast, Int.toNat_natCast, if_pos hs]
      refine (read_ok H hd' i j (by omega) (by omega) hs).mono ?_
      rintro e w' ⟨x, rfl, hx, hb⟩
      refine ⟨x, by rw [he], ?_, hb⟩
      unfold Fl.readB
      rw [he, if_pos rfl, Int.toNat_natCast, Int.toNat_natCast]
      exact hx.sees
    · refine key (if F.st i j = 1 then 22 else 21) (by split <;> decide) ?_ (read_not H hd' i j (by omega) (by omega) hs)
      unfold Fl.readE
      rw [if_neg hd, if_neg (not_not_intro hw'), Int.toNat_natCast, Int.toNat_natCast, if_neg hs]
  · exact key 1 (by decide) (by unfold Fl.readE; rw [if_neg hd, if_pos hw]) (read_err (by decide) (find_arg H hd' i j hw))

/-- A page elsewhere is as it was. -/
theorem put_other (F : Fl) (i j i' j' : Nat) (s : Int) (b : ByteArray) (h : ¬ (i' = i ∧ j' = j)) : (F.put i j s b).st i' j' = F.st i' j' ∧ (F.put i j s b).bs i' j' = F.bs i' j' := by
  unfold Fl.put Fl.setBs Fl.setSt
  exact ⟨if_neg h, if_neg h⟩
theorem anew_other (F : Fl) (i i' j' : Nat) (s : Int) (b : ByteArray) (h : i' ≠ i) : (F.anew i s b).st i' j' = F.st i' j' ∧ (F.anew i s b).bs i' j' = F.bs i' j' := by
  unfold Fl.anew Fl.setWear Fl.fill
  exact ⟨if_neg (fun c => h c.1), if_neg (fun c => h c.1)⟩
theorem burnt_pg (F : Fl) : F.burnt.st = F.st ∧ F.burnt.bs = F.bs ∧ F.burnt.wear = F.wear ∧ F.burnt.down = F.down ∧ F.burnt.keep = F.keep := by
  unfold Fl.burnt; split <;> exact ⟨rfl, rfl, rfl, rfl, rfl⟩
theorem changed_n (F : Fl) (act : Fl → Int → ByteArray → Fl) (ha : ∀ F s b, (act F s b).n = F.n) (s : Int) (b : ByteArray) : (F.changed act s b).n = F.n := by
  have := burnt_n F
  unfold Fl.changed
  split
  · show (if F.keep = 2 then act F.burnt s b else if F.keep = 1 then act F.burnt 1 ⟨#[]⟩ else F.burnt).n = F.n
    split
    · rw [ha, this]
    · split
      · rw [ha, this]
      · exact this
  · rw [ha, this]
theorem changed_pg (F : Fl) (act : Fl → Int → ByteArray → Fl) (i' j' : Nat) (ha : ∀ F s b, (act F s b).st i' j' = F.st i' j' ∧ (act F s b).bs i' j' = F.bs i' j') (s : Int) (b : ByteArray) : (F.changed act s b).st i' j' = F.st i' j' ∧ (F.changed act s b).bs i' j' = F.bs i' j' := by
  obtain ⟨h1, h2, _⟩ := burnt_pg F
  unfold Fl.changed
  split
  · show (if F.keep = 2 then act F.burnt s b else if F.keep = 1 then act F.burnt 1 ⟨#[]⟩ else F.burnt).st i' j' = _ ∧ (if F.keep = 2 then act F.burnt s b else if F.keep = 1 then act F.burnt 1 ⟨#[]⟩ else F.burnt).bs i' j' = _
    split
    · rw [(ha _ _ _).1, (ha _ _ _).2, h1, h2]; exact ⟨rfl, rfl⟩
    · split
      · rw [(ha _ _ _).1, (ha _ _ _).2, h1, h2]; exact ⟨rfl, rfl⟩
      · rw [h1, h2]; exact ⟨rfl, rfl⟩
  · rw [(ha _ _ _).1, (ha _ _ _).2, h1, h2]; exact ⟨rfl, rfl⟩

theorem prog_n (F : Fl) (i j : Int) (zs : List Int) : (F.prog i j zs).2.n = F.n := by
  unfold Fl.prog
  (repeat' split) <;> first | rfl | exact changed_n F (putA i.toNat j.toNat) (fun _ _ _ => rfl) _ _
theorem erase_n (F : Fl) (i : Int) : (F.erase i).2.n = F.n := by
  unfold Fl.erase
  (repeat' split) <;> first | rfl | exact changed_n F (anewA i.toNat) (fun _ _ _ => rfl) _ _
theorem prog_other (F : Fl) (i j : Int) (zs : List Int) (i' j' : Nat) (h : ¬ ((i' : Int) = i ∧ (j' : Int) = j)) : (F.prog i j zs).2.st i' j' = F.st i' j' ∧ (F.prog i j zs).2.bs i' j' = F.bs i' j' := by
  unfold Fl.prog
  by_cases hw : F.within i j
  · obtain ⟨h1, _, h3, _⟩ := id hw
    (repeat' split) <;> first | exact ⟨rfl, rfl⟩ | exact changed_pg F _ i' j' (fun F s b => put_other F _ _ i' j' s b (by omega)) _ _
  · rw [if_pos hw]
    split <;> exact ⟨rfl, rfl⟩
theorem erase_other (F : Fl) (i : Int) (i' j' : Nat) (h : (i' : Int) ≠ i) : (F.erase i).2.st i' j' = F.st i' j' ∧ (F.erase i).2.bs i' j' = F.bs i' j' := by
  unfold Fl.erase
  by_cases hw : F.within i 0
  · obtain ⟨h1, _, h3, _⟩ := id hw
    (repeat' split) <;> first | exact ⟨rfl, rfl⟩ | exact changed_pg F _ i' j' (fun F s b => anew_other F _ i' j' s b (by omega)) _ _
  · rw [if_pos hw]
    split <;> exact ⟨rfl, rfl⟩

/-- Without a fuse. -/
theorem changed_free (F : Fl) (act : Fl → Int → ByteArray → Fl) (s : Int) (b : ByteArray) (hc : F.cnt = 0) : F.changed act s b = act F s b := by
  unfold Fl.changed Fl.burnt
  rw [if_neg (by omega), if_pos hc]
theorem prog_free (F : Fl) (i j : Int) (zs : List Int) (hc : F.cnt = 0) (hd : F.down = false) : (F.prog i j zs).2.cnt = 0 ∧ (F.prog i j zs).2.down = false := by
  unfold Fl.prog
  rw [changed_free F _ _ _ hc]
  (repeat' split) <;> exact ⟨hc, hd⟩
theorem erase_free (F : Fl) (i : Int) (hc : F.cnt = 0) (hd : F.down = false) : (F.erase i).2.cnt = 0 ∧ (F.erase i).2.down = false := by
  unfold Fl.erase
  rw [changed_free F _ _ _ hc]
  (repeat' split) <;> exact ⟨hc, hd⟩

end Go.Proofs.Ytiijbklaapaheaa

/- Which pages are not blank: lists and counts; the document's Used and All. -/
namespace Go.Proofs.Ytiijbklaapaheaa
open Go.RowKit
set_option maxRecDepth 100000

/-- The pages of one block, below k, that are not blank. -/
def rowU (st : Nat → Int) (b : Nat) : Nat → List (Int × Int)
  | 0 => []
  | k + 1 => rowU st b k ++ if st k ≠ 0 then [((b : Int), (k : Int))] else []
/-- All pages of the blocks below b that are not blank. -/
def allU (st : Nat → Nat → Int) : Nat → List (Int × Int)
  | 0 => []
  | b + 1 => allU st b ++ rowU (st b) b 16

theorem rowU_le (st : Nat → Int) (b k : Nat) : (rowU st b k).length ≤ k := by
  induction k with
  | zero => simp [rowU]
  | succ k ih => rw [rowU, List.length_append]; split <;> simp <;> omega
theorem allU_le (st : Nat → Nat → Int) (b : Nat) : (allU st b).length ≤ b * 16 := by
  induction b with
  | zero => simp [allU]
  | succ b ih => rw [allU, List.length_append]; have := rowU_le (st b) b 16; omega

def Fl.usedE (F : Fl) (i : Int) : Int := if 0 ≤ i ∧ i < F.n then ((rowU (F.st i.toNat) i.toNat 16).length : Int) else 0

end Go.Proofs.Ytiijbklaapaheaa

/- Checkpoints: a region's halves: size, page, halves. -/
namespace Go.Proofs.Ytiijbklaapaheaa
open Go.RowKit
set_option maxRecDepth 100000

/-- A half: its flash, first block, how many. -/
abbrev halfV (h : Nat) (f n : Int) : Value := .agg #[P0 h, .int .i64 f, .int .i64 n]

set_option maxHeartbeats 800000 in
theorem hsize_any (h : Nat) (f : Int) (n : Nat) (w : World) (hn : n ≤ 1099511627776) :
    Calls Try.prog 41 #[halfV h f n] w fun e w' => e = .returned (.int .i64 ((n * 4096 : Nat) : Int)) ∧ Below w.heap.size w w' := by
  go_enter Try.func41, Try.ntmps41
  go_wp2
  go_ret
  exact ⟨by show Ending.returned (.int .i64 ((n : Int) * 16 * 256)) = _; rw [show ((n : Int) * 16 * 256) = ((n * 4096 : Nat) : Int) by omega], (Below.refl _ _).alloc (Nat.le_refl _) _⟩

set_option maxHeartbeats 800000 in
theorem page_any (h : Nat) (f i : Nat) (n : Int) (w : World) (hf : f ≤ 1099511627776) (hi : i ≤ 1099511627776) :
    Calls Try.prog 77 #[halfV h f n, .int .i64 i] w fun e w' => e = .returned (.tuple #[.int .i64 ((f + i / 16 : Nat) : Int), .int .i64 ((i % 16 : Nat) : Int)]) ∧ Below w.heap.size w w' := by
  go_enter Try.func77, Try.ntmps77
  go_wp2
  refine bodyPost_ret (v := .tuple #[.int .i64 ((f : Int) + (i : Int) / 16), .int .i64 ((i : Int) % 16)]) (by simp [results, Try.results77, go_sem]) rfl ?_
  exact ⟨by rw [Int.natCast_add, Int.natCast_ediv, Int.natCast_emod]; rfl, (Below.refl _ _).alloc (Nat.le_refl _) _⟩

set_option maxHeartbeats 1600000 in
theorem halves_any (h : Nat) (f n : Nat) (w : World) (hf : f ≤ 1099511627776) (hn : n ≤ 1099511627776) :
    Calls Try.prog 45 #[P0 h, .agg #[.int .i64 f, .int .i64 n]] w fun e w' => e = .returned (.agg #[P0 h, .int .i64 f, .int .i64 ((n / 2 : Nat) : Int), P0 h, .int .i64 ((f + n / 2 : Nat) : Int), .int .i64 ((n / 2 : Nat) : Int)]) ∧ Below w.heap.size w w' := by
  go_enter Try.func45, Try.ntmps45
  go_wp2
  refine bodyPost_ret (v := .agg #[P0 h, .int .i64 f, .int .i64 ((n : Int) / 2), P0 h, .int .i64 ((f : Int) + (n : Int) / 2), .int .i64 ((n : Int) / 2)]) (by simp [results, Try.results45, go_sem]) rfl ?_
  exact ⟨by rw [Int.natCast_add, Int.natCast_ediv]; rfl, ((Below.refl _ _).alloc (Nat.le_refl _) _).alloc (by simp) _⟩

end Go.Proofs.Ytiijbklaapaheaa
