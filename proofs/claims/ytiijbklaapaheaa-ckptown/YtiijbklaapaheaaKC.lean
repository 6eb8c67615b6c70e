/- Several texts as one. -/
import Derived.Test.YtiijbklaapaheaaCC
import Derived.Test.YtiijbklaapaheaaKB
import Derived.Test.YtiijbklaapaheaaUB
import Derived.Test.YtiijbklaapaheaaCG

/- Checkpoints: a half is cleared. -/
namespace Go.Proofs.Ytiijbklaapaheaa
open Go.RowKit
set_option maxRecDepth 100000

theorem changed_cnt (F : Fl) (act : Fl → Int → ByteArray → Fl) (hact : ∀ F s b, (act F s b).cnt = F.cnt) (s : Int) (b : ByteArray) (h0 : 0 ≤ F.cnt) (h1 : F.cnt ≤ 9223372036854775807) : 0 ≤ (F.changed act s b).cnt ∧ (F.changed act s b).cnt ≤ 9223372036854775807 := by
  unfold Fl.changed
  split
  · exact ⟨Int.le_refl _, by show (0 : Int) ≤ _; omega⟩
  · rw [hact]
    unfold Fl.burnt
    split
    · exact ⟨h0, h1⟩
    · constructor
      · show 0 ≤ F.cnt - 1; omega
      · show F.cnt - 1 ≤ _; omega
theorem prog_cnt (F : Fl) (i j : Int) (zs : List Int) (h0 : 0 ≤ F.cnt) (h1 : F.cnt ≤ 9223372036854775807) : 0 ≤ (F.prog i j zs).2.cnt ∧ (F.prog i j zs).2.cnt ≤ 9223372036854775807 := by
  unfold Fl.prog
  (repeat' split) <;> first | exact ⟨h0, h1⟩ | exact changed_cnt F (putA i.toNat j.toNat) (fun _ _ _ => rfl) _ _ h0 h1
theorem erase_cnt (F : Fl) (i : Int) (h0 : 0 ≤ F.cnt) (h1 : F.cnt ≤ 9223372036854775807) : 0 ≤ (F.erase i).2.cnt ∧ (F.erase i).2.cnt ≤ 9223372036854775807 := by
  unfold Fl.erase
  (repeat' split) <;> first | exact ⟨h0, h1⟩ | exact changed_cnt F (anewA i.toNat) (fun _ _ _ => rfl) _ _ h0 h1

/-- So many blocks from one on are erased where they are in use. -/
def clr (F : Fl) (b : Nat) : Nat → Int × Fl
  | 0 => (0, F)
  | k + 1 => if F.usedE b = 0 then clr F (b + 1) k else if (F.erase b).1 ≠ 0 then F.erase b else clr (F.erase b).2 (b + 1) k
theorem clr_succ (F : Fl) (b k : Nat) : clr F b (k + 1) = if F.usedE b = 0 then clr F (b + 1) k else if (F.erase b).1 ≠ 0 then F.erase b else clr (F.erase b).2 (b + 1) k := rfl

theorem clr_cnt (k : Nat) : ∀ (F : Fl) (b : Nat), 0 ≤ F.cnt → F.cnt ≤ 9223372036854775807 → 0 ≤ (clr F b k).2.cnt ∧ (clr F b k).2.cnt ≤ 9223372036854775807 ∧ (clr F b k).2.n = F.n := by
  induction k with
  | zero => intro F b h0 h1; exact ⟨h0, h1, rfl⟩
  | succ k ih =>
    intro F b h0 h1
    obtain ⟨e0, e1⟩ := erase_cnt F b h0 h1
    unfold clr
    split
    · exact ih _ _ h0 h1
    · split
      · exact ⟨e0, e1, erase_n F b⟩
      · obtain ⟨q0, q1, q2⟩ := ih (F.erase b).2 (b + 1) e0 e1
        exact ⟨q0, q1, q2.trans (erase_n F b)⟩

set_option maxHeartbeats 3200000 in
theorem clear_any {w : World} {g h cap : Nat} {F : Fl} (H : IsFl w g h cap F) (hc0 : 0 ≤ F.cnt) (hm : F.cnt ≤ 9223372036854775807) (f n : Nat) (hf : f ≤ 1099511627776) (hn : n ≤ 1099511627776) :
    Calls Try.prog 75 #[halfV h f n] w fun e w' => e = .returned (.int .i64 (clr F f n).1) ∧ IsFl w' g h cap (clr F f n).2 ∧ Upd (Two g h) w.heap.size w w' := by
  obtain ⟨B, hB⟩ : ∃ B, w.alloc (.cells #[P0 h, .int .i64 f, .int .i64 n] 78) = B := ⟨_, rfl⟩
  have HAL : Hid (Below w.heap.size w B) := hB ▸ (Below.refl _ _).alloc (Nat.le_refl _) _
  have HSZ : Hid (B.heap.size = w.heap.size + 1) := by rw [← hB]; exact World.size_alloc ..
  have hg := H.glt; have hh := H.hlt
  have HBX : Hid (∀ x, Upd (Two g h) (w.heap.size + 1) B x → x.cell? ⟨w.heap.size, 0, none⟩ = some (P0 h) ∧ x.cell? ⟨w.heap.size, 1, none⟩ = some (.int .i64 f) ∧ x.cell? ⟨w.heap.size, 2, none⟩ = some (.int .i64 n)) := by
    intro x hx
    have hb := box3f (w := w) (w1 := B) (x0 := P0 h) (x1 := .int .i64 f) (x2 := .int .i64 n) (t := 78) (by rw [hB]; exact Below.refl _ _)
    have hne : ¬ Two g h w.heap.size := by show ¬ (w.heap.size = g ∨ w.heap.size = h); omega
    refine ⟨?_, ?_, ?_⟩
    · rw [hx.cell (p := ⟨w.heap.size, 0, none⟩) (Nat.lt_succ_self _) hne]; exact hb.1
    · rw [hx.cell (p := ⟨w.heap.size, 1, none⟩) (Nat.lt_succ_self _) hne]; exact hb.2.1
    · rw [hx.cell (p := ⟨w.heap.size, 2, none⟩) (Nat.lt_succ_self _) hne]; exact hb.2.2.1
  have HI := hide (H.below (unhide HAL))
  have q := unhide HBX B (Upd.refl _ _ _)
  obtain ⟨q0, q1, q2⟩ := q
  clear H hg hh
  go_enter Try.func75, Try.ntmps75
  go_wp2_with (rw [hB])
  clear q0 q1 q2
  go_loopw [3] (fun c wr => ∃ k : Nat, k ≤ n ∧ c = .int .i64 ((f + k : Nat) : Int) ∧ ∃ G : Fl, IsFl wr g h cap G ∧ 0 ≤ G.cnt ∧ G.cnt ≤ 9223372036854775807 ∧ clr F f n = clr G (f + k) (n - k) ∧ Upd (Two g h) (w.heap.size + 1) B wr) (fun c _ => f + n - (intOf c).toNat)
  case atStart => exact ⟨0, Nat.zero_le _, rfl, F, unhide HI, hc0, hm, rfl, Upd.refl _ _ _⟩
  case round =>
    obtain ⟨k, hk, rfl, G, hI, g0, g1, hE, hU⟩ := hrel
    obtain ⟨q0, q1, q2⟩ := unhide HBX wr hU
    by_cases hlt : k < n
    · have hlt' : decide (((f + k : Nat) : Int) < (f : Int) + n) = true := by simp; omega
      obtain ⟨m, hmk⟩ : ∃ m, n - k = m + 1 := ⟨n - k - 1, by omega⟩
      rw [hmk] at hE
      rw [clr_succ] at hE
      have HUS := hide (fused_any hI (((f + k : Nat) : Int)))
      have HG := hide hI
      have HU := hide hU
      have HE := hide hE
      clear hI hU hE
      by_cases cu : G.usedE (f + k : Nat) = 0
      · rw [cu] at HUS
        have HE2 := hide ((unhide HE).trans (if_pos cu))
        clear HE
        go_wp2_with fail
        refine (unhide HUS).mono ?_
        rintro e w1 ⟨rfl, hb1⟩
        have HB1 := hide hb1
        clear hb1
        go_wp2
        go_roundw
        case rel => exact ⟨k + 1, by omega, by go_num, G, (unhide HG).below (unhide HB1), g0, g1, by rw [unhide HE2]; congr 1; omega, (unhide HU).trans ((Upd.of (unhide HB1)).less (by have := (unhide HU).size; have := unhide HSZ; omega))⟩
        case measure => simp [intOf]; omega
      · have cu' : (G.usedE (f + k : Nat) == 0) = false := by simpa using cu
        have HE2 := hide ((unhide HE).trans (if_neg cu))
        have HER : Hid (∀ x, IsFl x g h cap G → Calls Try.prog 94 #[P0 h, .int .i64 ((f + k : Nat) : Int)] x fun e w' => e = .returned (.int .i64 (G.erase (f + k : Nat)).1) ∧ IsFl w' g h cap (G.erase (f + k : Nat)).2 ∧ Upd (Two g h) x.heap.size x w') := fun x hx => erase_all hx g0 g1 _
        obtain ⟨e0, e1⟩ := erase_cnt G (f + k : Nat) g0 g1
        clear HE
        generalize G.erase (f + k : Nat) = R at HER HE2 e0 e1
        obtain ⟨er, G2⟩ := R
        simp only at HER HE2 e0 e1
        generalize G.usedE (f + k : Nat) = us at HUS cu'
        by_cases ce : er = 0
        · subst ce
          have HE3 := hide ((unhide HE2).trans (if_neg (by simp)))
          clear HE2
          go_wp2_with fail
          refine (unhide HUS).mono ?_
          rintro e w1 ⟨rfl, hb1⟩
          have HU1 := hide ((unhide HU).trans ((Upd.of hb1).less (by have := (unhide HU).size; have := unhide HSZ; omega)))
          have HC := hide (unhide HER w1 ((unhide HG).below hb1))
          obtain ⟨q0, q1, q2⟩ := unhide HBX w1 (unhide HU1)
          clear hb1
          go_wp2_with fail
          refine (unhide HC).mono ?_
          rintro e w2 ⟨rfl, i2, u2⟩
          have HI2 := hide i2
          have HU2 := hide ((unhide HU1).trans (u2.less (by have := (unhide HU1).size; have := unhide HSZ; omega)))
          clear i2 u2
          go_wp2
          go_roundw
          case rel => exact ⟨k + 1, by omega, by go_num, G2, unhide HI2, e0, e1, by rw [unhide HE3]; congr 1; omega, unhide HU2⟩
          case measure => simp [intOf]; omega
        · have HE3 := hide ((unhide HE2).trans (if_pos ce))
          have ce' : (er != 0) = true := by simpa using ce
          clear HE2
          go_wp2_with fail
          refine (unhide HUS).mono ?_
          rintro e w1 ⟨rfl, hb1⟩
          have HU1 := hide ((unhide HU).trans ((Upd.of hb1).less (by have := (unhide HU).size; have := unhide HSZ; omega)))
          have HC := hide (unhide HER w1 ((unhide HG).below hb1))
          obtain ⟨q0, q1, q2⟩ := unhide HBX w1 (unhide HU1)
          clear hb1
          go_wp2_with fail
          refine (unhide HC).mono ?_
          rintro e w2 ⟨rfl, i2, u2⟩
          have HI2 := hide i2
          have HU2 := hide ((unhide HU1).trans (u2.less (by have := (unhide HU1).size; have := unhide HSZ; omega)))
          clear i2 u2
          go_wp2
          go_ret
          rw [unhide HE3]
          exact ⟨rfl, unhide HI2, (Upd.of (unhide HAL)).trans ((unhide HU2).less (Nat.le_succ _))⟩
    · obtain rfl : k = n := by omega
      have hlt' : decide (((f + k : Nat) : Int) < (f : Int) + k) = false := by simp
      rw [Nat.sub_self] at hE
      have HG := hide hI
      have HU := hide hU
      have HE := hide hE
      clear hI hU hE
      go_wp2
      go_ret
      rw [unhide HE]
      exact ⟨rfl, unhide HG, (Upd.of (unhide HAL)).trans ((unhide HU).less (Nat.le_succ _))⟩

end Go.Proofs.Ytiijbklaapaheaa

/- Bytes in pieces: slices.Chunk as a contract of the walk; what the pieces show; a half is written, in pure terms. -/
namespace Go.Proofs.Ytiijbklaapaheaa
open Go.RowKit Go.Shelf
set_option maxRecDepth 100000

theorem abides_drew {α : Type} {B : Nat} {J : α → World → Prop} (h : AbidesFrom B J) (s : α) (A : World) (hs : J s A) : J s A.drew :=
  h s A A.drew none hs ⟨rfl, rfl, rfl, Nat.le_refl _, fun _ _ _ => rfl⟩ (fun r e => by cases e)

theorem chunk_stops (F : Fence) (n : Nat) (h7 : F.fn 95) (hro : F.round = none) (hn : 1 ≤ n) (sb nb b len cap : Nat) (hlc : len ≤ cap) (hreach : len ≤ 1048576) (w : World) (hs : sb < w.heap.size) (hnb : nb < w.heap.size)
    (hcs : w.cell? ⟨sb, 0, none⟩ = some (.slice (some ⟨b, 0, none⟩) len cap)) (hcn : w.cell? ⟨nb, 0, none⟩ = some (.int .i64 256)) :
    SeqStopsK F n Try.prog 95 #[.pointer (some ⟨sb, 0, none⟩), .pointer (some ⟨nb, 0, none⟩)] (fun x : Nat => #[chV b len x]) (KT sb nb) (fun ys => ys = List.range (chN len)) (fun pre => ∃ k, k < chN len ∧ pre = List.range (k + 1)) (chN len) w := fun l J Jx W hW hJ _ hY h0 => by
  refine (chunk1_in F n h7 hro hn l sb nb b len cap hlc hreach J Jx (fun s A h => abides_drew hJ s A h) hY W ((hW.cell (p := ⟨sb, 0, none⟩) hs).trans hcs) ((hW.cell (p := ⟨nb, 0, none⟩) hnb).trans hcn) h0).mono ?_
  rintro e W' ⟨he, hj | ⟨k, hk, hj⟩⟩
  · exact ⟨he, .inl ⟨_, rfl, hj⟩⟩
  · exact ⟨he, .inr ⟨_, ⟨k, hk, rfl⟩, hj⟩⟩

set_option maxHeartbeats 400000 in
theorem chunk_fn {w : World} (a : Option Addr) (n c : Nat) :
    Calls Try.prog 76 #[.slice a n c, .int .i64 256] w fun e w' => e = .returned (.func (.func 95) #[] #[.pointer (some ⟨w.heap.size, 0, none⟩), .pointer (some ⟨w.heap.size + 1, 0, none⟩)]) ∧ w' = (w.alloc (.cells #[.slice a n c] 22)).alloc (.cells #[.int .i64 256] 3) := by
  go_enter Try.func76, Try.ntmps76
  go_wp2
  go_ret
  exact ⟨rfl, rfl⟩

/-- A piece. -/
def ch (zs : List Int) (x : Nat) : List Int := (zs.drop (x * 256)).take 256
theorem ch_len (zs : List Int) (x : Nat) : (ch zs x).length = min 256 (zs.length - x * 256) := by
  unfold ch; rw [List.length_take, List.length_drop]
theorem ch_byt {zs : List Int} (h : Byt zs) (x : Nat) : Byt (ch zs x) := fun b hb => h b (List.mem_of_mem_drop (List.mem_of_mem_take hb))
theorem ch_sees {w : World} {b : Nat} {zs : List Int} (h : ∀ t, t < zs.length → w.cell? ⟨b, t, none⟩ = some (.int .u8 (zs.getD t 0))) (x : Nat) : Sees w .u8 (chV b zs.length x) (ch zs x) := by
  refine ⟨some ⟨b, x * 256, none⟩, min 256 (zs.length - x * 256), by rw [ch_len], by rw [ch_len]; exact Nat.le_refl _, fun c => by simp at c, ?_⟩
  intro a ha t ht
  injection ha with ha
  subst ha
  rw [ch_len] at ht
  have hadd : (⟨b, x * 256, none⟩ : Addr).add t = ⟨b, x * 256 + t, none⟩ := by unfold Addr.add; split <;> simp_all
  rw [hadd, h _ (by omega)]
  congr 2
  unfold ch
  simp only [List.getD_eq_getElem?_getD]
  rw [List.getElem?_take_of_lt (by omega), List.getElem?_drop]

/-- Pieces are written on the pages of a half from one on. -/
def wrt (F : Fl) (f : Nat) : Nat → List (List Int) → Int × Fl
  | _, [] => (0, F)
  | i, c :: cs => if (F.prog ((f + i / 16 : Nat) : Int) ((i % 16 : Nat) : Int) c).1 ≠ 0 then F.prog ((f + i / 16 : Nat) : Int) ((i % 16 : Nat) : Int) c else wrt (F.prog ((f + i / 16 : Nat) : Int) ((i % 16 : Nat) : Int) c).2 f (i + 1) cs
theorem wrt_cons (F : Fl) (f i : Nat) (c : List Int) (cs : List (List Int)) : wrt F f i (c :: cs) = if (F.prog ((f + i / 16 : Nat) : Int) ((i % 16 : Nat) : Int) c).1 ≠ 0 then F.prog ((f + i / 16 : Nat) : Int) ((i % 16 : Nat) : Int) c else wrt (F.prog ((f + i / 16 : Nat) : Int) ((i % 16 : Nat) : Int) c).2 f (i + 1) cs := rfl
/-- A half is written: cleared, then page by page. -/
def wrtH (F : Fl) (f n : Nat) (zs : List Int) : Int × Fl := if (clr F f n).1 ≠ 0 then clr F f n else wrt (clr F f n).2 f 0 ((List.range (chN zs.length)).map (ch zs))

end Go.Proofs.Ytiijbklaapaheaa

/- Checkpoints: a half is written. -/
namespace Go.Proofs.Ytiijbklaapaheaa
open Go.RowKit Go.Shelf
set_option maxRecDepth 100000
attribute [local go_sem] Oper.semAt_some

/-- The blocks that a writer turns: the flash's two, its count, its answer. -/
def Four (g h c r : Nat) : Nat → Prop := fun k => k = g ∨ k = h ∨ k = c ∨ k = r

/-- Where the writer stands behind some pieces. -/
def WI (g h cap c r f : Nat) (zs : List Int) (G0 : Fl) (w2 : World) (pre : List Nat) (W : World) : Prop :=
  (∃ G, IsFl W g h cap G ∧ 0 ≤ G.cnt ∧ G.cnt ≤ 9223372036854775807 ∧ ∀ rest, wrt G0 f 0 (pre.map (ch zs) ++ rest) = wrt G f pre.length rest) ∧
  W.cell? ⟨c, 0, none⟩ = some (.int .i64 pre.length) ∧ W.frozen? ⟨c, 0, none⟩ = false ∧ W.frozen? ⟨r, 0, none⟩ = false ∧ (∃ u, W.cell? ⟨r, 0, none⟩ = some u) ∧ Upd (Four g h c r) w2.heap.size w2 W
/-- .. where it left early. -/
def WX (g h cap c r f : Nat) (zs : List Int) (G0 : Fl) (w2 : World) (k : Code) (pre : List Nat) (W : World) : Prop :=
  k = .ret ∧ ∃ G er, er ≠ 0 ∧ IsFl W g h cap G ∧ W.cell? ⟨r, 0, none⟩ = some (.int .i64 er) ∧ (∀ rest, wrt G0 f 0 (pre.map (ch zs) ++ rest) = (er, G)) ∧ Upd (Four g h c r) w2.heap.size w2 W

theorem grown_below {A B : World} {N : Nat} {row : Option Nat} (hN : N ≤ A.heap.size) (hg : A.grownBy B row) (hr : ∀ r, row = some r → N ≤ r) : Below N A B := (Below.refl _ _).grown hg hN hr

theorem WI.own {g h cap c r f : Nat} {zs : List Int} {G0 : Fl} {w2 : World} (hg : g < w2.heap.size) (hh : h < w2.heap.size) (hc : c < w2.heap.size) (hr : r < w2.heap.size) : OwnFrom w2.heap.size (WI g h cap c r f zs G0 w2) := by
  rintro s A B row ⟨⟨G, i, c0, c1, e⟩, k1, k2, k3, ⟨u, k4⟩, hU⟩ hgr hro
  have hb : Below w2.heap.size A B := grown_below hU.size hgr fun r e => (hro r e).1
  refine ⟨⟨G, i.keepB (hb.block _ hg) (hb.block _ hh), c0, c1, e⟩, (hb.cell (p := ⟨c, 0, none⟩) hc).trans k1, ?_, ?_, ⟨u, (hb.cell (p := ⟨r, 0, none⟩) hr).trans k4⟩, hU.trans (Upd.of hb)⟩
  · rw [World.frozen?_of_block (w := A) (hb.block c hc)]; exact k2
  · rw [World.frozen?_of_block (w := A) (hb.block r hr)]; exact k3
theorem WX.own {g h cap c r f : Nat} {zs : List Int} {G0 : Fl} {w2 : World} (hg : g < w2.heap.size) (hh : h < w2.heap.size) (hr : r < w2.heap.size) (k : Code) : OwnFrom w2.heap.size (WX g h cap c r f zs G0 w2 k) := by
  rintro s A B row ⟨rfl, G, er, he, i, k1, e, hU⟩ hgr hro
  have hb : Below w2.heap.size A B := grown_below hU.size hgr fun r e => (hro r e).1
  exact ⟨rfl, G, er, he, i.keepB (hb.block _ hg) (hb.block _ hh), (hb.cell (p := ⟨r, 0, none⟩) hr).trans k1, e, hU.trans (Upd.of hb)⟩

/-- What is no cells lies still where a flash is turned. -/
theorem upd_others {g h cap N : Nat} {G : Fl} {A B : World} (H : IsFl A g h cap G) (hu : Upd (Two g h) N A B) (hN : A.heap.size ≤ N) : KeepsOthers A B := by
  refine ⟨hu.size, fun k o ho hc => ?_⟩
  have hk : k < A.heap.size := (Array.getElem?_eq_some_iff.1 ho).1
  have hne : ∀ j v, A.cell? ⟨j, 0, none⟩ = some v → k ≠ j := by
    rintro j v hv rfl
    unfold World.cell? at hv
    simp only [ho] at hv
    cases o <;> simp_all [Obj.isCells]
  rw [hu.block k (by omega) (by
    rintro (rfl | rfl)
    · have := H.st 0 0 H.pos (by omega); simp only [Nat.zero_mul, Nat.zero_add] at this; exact hne _ _ this rfl
    · exact hne _ _ H.ptr rfl)]
  exact ho

end Go.Proofs.Ytiijbklaapaheaa
