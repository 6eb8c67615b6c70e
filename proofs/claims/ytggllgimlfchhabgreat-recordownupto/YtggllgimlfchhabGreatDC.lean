/- Record: the fields of a message written. -/
import Derived.Test.YtggllgimlfchhabGreatJD
import Derived.Test.YtggllgimlfchhabGreatCF
namespace Go.Proofs.YtggllgimlfchhabGreat
open Go.RowKit
set_option maxRecDepth 100000

/-- A field's form. -/
def fB (f : Int) (m : MsgD) : List Int :=
  if f = 0 then putL [m.term] else if f = 1 then putL [m.slot] else if f = 2 then putL [m.last] else if f = 3 then putL [m.commit] else if f = 4 then putL [if m.yes then 1 else 0] else if f = 5 then putL [(m.list.length : Int)] ++ tmsB m.list else if f = 6 then entB m.ent else ptB m.part
def flsB (F : List Int) (m : MsgD) : List Int := (F.map fun f => fB f m).flatten
theorem take_fls (F : List Int) (m : MsgD) (t : Nat) (ht : t < F.length) : flsB (F.take (t + 1)) m = flsB (F.take t) m ++ fB F[t] m := by
  unfold flsB
  rw [List.take_succ_eq_append_getElem ht, List.map_append, List.flatten_append]
  simp only [List.map_cons, List.map_nil, List.flatten_cons, List.flatten_nil, List.append_nil]
structure FitM (m : MsgD) : Prop where
  term : -9223372036854775808 ≤ m.term ∧ m.term ≤ 9223372036854775807
  slot : -9223372036854775808 ≤ m.slot ∧ m.slot ≤ 9223372036854775807
  last : -9223372036854775808 ≤ m.last ∧ m.last ≤ 9223372036854775807
  commit : -9223372036854775808 ≤ m.commit ∧ m.commit ≤ 9223372036854775807
  list : ∀ t ∈ m.list, FitTm t
  ent : FitE m.ent
  part : FitP m.part

set_option maxHeartbeats 3200000 in
theorem fields_any {w0 w : World} {B lo g : Nat} {xs : List Int} (h : Wr w B lo xs) (cs : Array Value) (m : MsgD) (F : List Int) (hM : SeesM w0 cs m) (hb0 : Below w0.heap.size w0 w) (hN : w0.heap.size ≤ B) (hfit : FitM m)
    (hg : w.heap[g]? = some (.cells (F.map (Value.int .i64)).toArray 109)) (hgB : g ≠ B) (hF : ∀ f ∈ F, (0 ≤ f ∧ f ≤ 7) ∧ fMay f m = true) (hlen : F.length ≤ 5) (hn : xs.length ≤ 1000) (hpre : ∀ t, t < F.length → (flsB (F.take t) m).length ≤ 1000) :
    Calls Tryz.prog 70 #[.agg #[.pointer (some ⟨B, 0, none⟩), .pointer (some ⟨B, 0, none⟩), .pointer (some ⟨B, 0, none⟩)], .agg cs, .slice (some ⟨g, 0, none⟩) F.length F.length] w fun e w' => e = .returned (.tuple #[]) ∧ Wr w' B lo (xs ++ flsB F m) ∧ Wrote B lo w w' := by
  have hlt := h.lt; have hle := h.le
  have hM' := hM
  obtain ⟨lv, tv, dv, rfl, k1, k2, k3⟩ := hM
  have K1 := hide k1
  have K2 := hide (StTs.of k2)
  have K3 := hide k3
  obtain ⟨la, lc, _, _, rfl, _⟩ := k1
  obtain ⟨ta, tc, _, _, rfl, _⟩ := k2
  obtain ⟨da, dc, rfl, _⟩ := k3
  obtain ⟨n, hnF⟩ : ∃ n, F.length = n := ⟨_, rfl⟩
  rw [hnF] at hlen
  rw [hnF]
  have HNF := hide hnF
  have HF := hide hF
  have HPRE := hide hpre
  have HFIT := hide hfit
  obtain ⟨aK, EaK⟩ : ∃ x, m.kind = x := ⟨_, rfl⟩
  obtain ⟨aF, EaF⟩ : ∃ x, m.frm = x := ⟨_, rfl⟩
  obtain ⟨aO, EaO⟩ : ∃ x, m.to = x := ⟨_, rfl⟩
  obtain ⟨aT, EaT⟩ : ∃ x, m.term = x := ⟨_, rfl⟩
  obtain ⟨aS, EaS⟩ : ∃ x, m.slot = x := ⟨_, rfl⟩
  obtain ⟨aL, EaL⟩ : ∃ x, m.last = x := ⟨_, rfl⟩
  obtain ⟨aC, EaC⟩ : ∃ x, m.commit = x := ⟨_, rfl⟩
  obtain ⟨aY, EaY⟩ : ∃ x, m.yes = x := ⟨_, rfl⟩
  obtain ⟨ll, Ell⟩ : ∃ x, m.list.length = x := ⟨_, rfl⟩
  obtain ⟨ek, Eek⟩ : ∃ x, m.ent.kind = x := ⟨_, rfl⟩
  obtain ⟨ef, Eef⟩ : ∃ x, m.ent.frm = x := ⟨_, rfl⟩
  obtain ⟨en, Een⟩ : ∃ x, m.ent.num = x := ⟨_, rfl⟩
  obtain ⟨tl, Etl⟩ : ∃ x, m.ent.txns.length = x := ⟨_, rfl⟩
  obtain ⟨ps, Eps⟩ : ∃ x, m.part.slot = x := ⟨_, rfl⟩
  obtain ⟨pi, Epi⟩ : ∃ x, m.part.idx = x := ⟨_, rfl⟩
  obtain ⟨pm, Epm⟩ : ∃ x, m.part.many = x := ⟨_, rfl⟩
  obtain ⟨dl, Edl⟩ : ∃ x, m.part.data.length = x := ⟨_, rfl⟩
  have HNU : Hid (∀ x zs (q : Int), Wr x B lo zs → (-9223372036854775808 ≤ q ∧ q ≤ 9223372036854775807) → zs.length ≤ 4000 → Calls Tryz.prog 54 #[.pointer (some ⟨B, 0, none⟩), .slice (some ⟨x.heap.size, 0, none⟩) 1 1] (x.alloc (.cells #[.int .i64 q] 2)) fun r w' => r = .returned (.tuple #[]) ∧ Wr w' B lo (zs ++ putL [q]) ∧ Wrote B lo x w') := fun x zs q hx hq hz => by
    have hal : Below x.heap.size x (x.alloc (.cells #[.int .i64 q] 2)) := (Below.refl _ _).alloc (Nat.le_refl _) _
    have HN := nums_any (hx.below hal) _ [q] (sees_lit x [q] (by simp)) (by simp) (i64_of fun y hy => by simp at hy; subst hy; exact hq) (by have : sizeL [q] ≤ 9 := sizeL_le [q]; omega)
    exact HN.mono fun e w' ⟨h1, h2, h3⟩ => ⟨h1, h2, (Wrote.of hal).trans h3⟩
  have HFL : Hid (∀ x zs, Wr x B lo zs → zs.length ≤ 4000 → Calls Tryz.prog 103 #[.pointer (some ⟨B, 0, none⟩), .bool aY] x fun r w' => r = .returned (.tuple #[]) ∧ Wr w' B lo (zs ++ putL [if m.yes then 1 else 0]) ∧ Wrote B lo x w') := fun x zs hx hz => by rw [← EaY]; exact flag_any hx m.yes (by omega)
  have HLI : Hid (∀ x zs, Wr x B lo zs → Below w0.heap.size w0 x → zs.length ≤ 4000 → fMay 5 m = true → Calls Tryz.prog 104 #[.pointer (some ⟨B, 0, none⟩), .slice la ll lc, .func (.func 105) #[.agg #[.pointer (some ⟨B, 0, none⟩)]] #[]] x fun r w' => r = .returned (.tuple #[]) ∧ Wr w' B lo (zs ++ (putL [(m.list.length : Int)] ++ tmsB m.list)) ∧ Wrote B lo x w') := fun x zs hx hb hz hm => by
    rw [← Ell]
    simp only [fMay] at hm
    simp at hm
    exact putTms_any hx _ m.list hb hN (unhide K1) hfit.list (fun t ht => by have := hm.2 t ht; simp only [mayTm, Bool.and_eq_true] at this; exact this.2) hm.1 (by omega)
  have HEN : Hid (∀ x zs, Wr x B lo zs → Below w0.heap.size w0 x → zs.length ≤ 4000 → fMay 6 m = true → Calls Tryz.prog 24 #[.agg #[.pointer (some ⟨B, 0, none⟩)], .agg #[.int .i64 ek, .int .i64 ef, .int .i64 en, .slice ta tl tc]] x fun r w' => r = .returned (.tuple #[]) ∧ Wr w' B lo (zs ++ entB m.ent) ∧ Wrote B lo x w') := fun x zs hx hb hz hm => by
    rw [← Eek, ← Eef, ← Een, ← Etl]
    simp only [fMay] at hm
    simp at hm
    exact entryW_any (N := w0.heap.size) hx m.ent _ hN (by omega) ((unhide K2).on hb) hfit.ent hm
  have HPT : Hid (∀ x zs, Wr x B lo zs → Below w0.heap.size w0 x → zs.length ≤ 4000 → fMay 7 m = true → Calls Tryz.prog 106 #[.agg #[.pointer (some ⟨B, 0, none⟩)], .agg #[.int .i64 ps, .int .i64 pi, .int .i64 pm, .slice da dl dc]] x fun r w' => r = .returned (.tuple #[]) ∧ Wr w' B lo (zs ++ ptB m.part) ∧ Wrote B lo x w') := fun x zs hx hb hz hm => by
    rw [← Eps, ← Epi, ← Epm, ← Edl]
    simp only [fMay] at hm
    simp [mayP] at hm
    exact part_any (N := w0.heap.size) hx m.part _ hN (by omega) (fun y hy => (unhide K3).below (hb.trans hy)) hfit.part hm.2
  rw [EaK, EaF, EaO, EaT, EaS, EaL, EaC, EaY, Ell, Eek, Eef, Een, Etl, Eps, Epi, Epm, Edl]
  have HT := hide hfit.term
  have HSl := hide hfit.slot
  have HLa := hide hfit.last
  have HCo := hide hfit.commit
  rw [EaT] at HT
  rw [EaS] at HSl
  rw [EaL] at HLa
  rw [EaC] at HCo
  have hal : Below w.heap.size w ((w.alloc (.cells #[.pointer (some ⟨B, 0, none⟩), .pointer (some ⟨B, 0, none⟩), .pointer (some ⟨B, 0, none⟩)] 76)).alloc (.cells #[.int .i64 aK, .int .i64 aF, .int .i64 aO, .int .i64 aT, .int .i64 aS, .int .i64 aL, .int .i64 aC, .bool aY, .slice la ll lc, .int .i64 ek, .int .i64 ef, .int .i64 en, .slice ta tl tc, .int .i64 ps, .int .i64 pi, .int .i64 pm, .slice da dl dc] 30)) := ((Below.refl _ _).alloc (Nat.le_refl _) _).alloc (by simp) _
  have e0 : (w.alloc (.cells #[.pointer (some ⟨B, 0, none⟩), .pointer (some ⟨B, 0, none⟩), .pointer (some ⟨B, 0, none⟩)] 76)).heap.size = w.heap.size + 1 := by simp
  have b0 : ((w.alloc (.cells #[.pointer (some ⟨B, 0, none⟩), .pointer (some ⟨B, 0, none⟩), .pointer (some ⟨B, 0, none⟩)] 76)).alloc (.cells #[.int .i64 aK, .int .i64 aF, .int .i64 aO, .int .i64 aT, .int .i64 aS, .int .i64 aL, .int .i64 aC, .bool aY, .slice la ll lc, .int .i64 ek, .int .i64 ef, .int .i64 en, .slice ta tl tc, .int .i64 ps, .int .i64 pi, .int .i64 pm, .slice da dl dc] 30)).heap[w.heap.size]? = some (.cells #[.pointer (some ⟨B, 0, none⟩), .pointer (some ⟨B, 0, none⟩), .pointer (some ⟨B, 0, none⟩)] 76) := (Below.heap_alloc _ _ _ (by simp)).trans (heap_alloc_new w _)
  have b1 : ((w.alloc (.cells #[.pointer (some ⟨B, 0, none⟩), .pointer (some ⟨B, 0, none⟩), .pointer (some ⟨B, 0, none⟩)] 76)).alloc (.cells #[.int .i64 aK, .int .i64 aF, .int .i64 aO, .int .i64 aT, .int .i64 aS, .int .i64 aL, .int .i64 aC, .bool aY, .slice la ll lc, .int .i64 ek, .int .i64 ef, .int .i64 en, .slice ta tl tc, .int .i64 ps, .int .i64 pi, .int .i64 pm, .slice da dl dc] 30)).heap[w.heap.size + 1]? = some (.cells #[.int .i64 aK, .int .i64 aF, .int .i64 aO, .int .i64 aT, .int .i64 aS, .int .i64 aL, .int .i64 aC, .bool aY, .slice la ll lc, .int .i64 ek, .int .i64 ef, .int .i64 en, .slice ta tl tc, .int .i64 ps, .int .i64 pi, .int .i64 pm, .slice da dl dc] 30) := by have := heap_alloc_new (w.alloc (.cells #[.pointer (some ⟨B, 0, none⟩), .pointer (some ⟨B, 0, none⟩), .pointer (some ⟨B, 0, none⟩)] 76)) (.cells #[.int .i64 aK, .int .i64 aF, .int .i64 aO, .int .i64 aT, .int .i64 aS, .int .i64 aL, .int .i64 aC, .bool aY, .slice la ll lc, .int .i64 ek, .int .i64 ef, .int .i64 en, .slice ta tl tc, .int .i64 ps, .int .i64 pi, .int .i64 pm, .slice da dl dc] 30); rw [e0] at this; exact this
  have bg : ((w.alloc (.cells #[.pointer (some ⟨B, 0, none⟩), .pointer (some ⟨B, 0, none⟩), .pointer (some ⟨B, 0, none⟩)] 76)).alloc (.cells #[.int .i64 aK, .int .i64 aF, .int .i64 aO, .int .i64 aT, .int .i64 aS, .int .i64 aL, .int .i64 aC, .bool aY, .slice la ll lc, .int .i64 ek, .int .i64 ef, .int .i64 en, .slice ta tl tc, .int .i64 ps, .int .i64 pi, .int .i64 pm, .slice da dl dc] 30)).heap[g]? = some (.cells (F.map (Value.int .i64)).toArray 109) := (hal.block g (Array.getElem?_eq_some_iff.1 hg).1).trans hg
  obtain ⟨w2, hw2⟩ : ∃ y, ((w.alloc (.cells #[.pointer (some ⟨B, 0, none⟩), .pointer (some ⟨B, 0, none⟩), .pointer (some ⟨B, 0, none⟩)] 76)).alloc (.cells #[.int .i64 aK, .int .i64 aF, .int .i64 aO, .int .i64 aT, .int .i64 aS, .int .i64 aL, .int .i64 aC, .bool aY, .slice la ll lc, .int .i64 ek, .int .i64 ef, .int .i64 en, .slice ta tl tc, .int .i64 ps, .int .i64 pi, .int .i64 pm, .slice da dl dc] 30)) = y := ⟨_, rfl⟩
  rw [hw2] at hal b0 b1 bg
  have HBX : Hid (∀ x : World, Wrote B lo w2 x → x.heap[w.heap.size]? = some (.cells #[.pointer (some ⟨B, 0, none⟩), .pointer (some ⟨B, 0, none⟩), .pointer (some ⟨B, 0, none⟩)] 76) ∧ x.heap[w.heap.size + 1]? = some (.cells #[.int .i64 aK, .int .i64 aF, .int .i64 aO, .int .i64 aT, .int .i64 aS, .int .i64 aL, .int .i64 aC, .bool aY, .slice la ll lc, .int .i64 ek, .int .i64 ef, .int .i64 en, .slice ta tl tc, .int .i64 ps, .int .i64 pi, .int .i64 pm, .slice da dl dc] 30) ∧ x.heap[g]? = some (.cells (F.map (Value.int .i64)).toArray 109)) := fun x kx => ⟨kx.box b0 (by decide) (by omega), kx.box b1 (by decide) (by omega), kx.box bg (by decide) hgB⟩
  have HW2 : Hid (Wrote B lo w w2) := Wrote.of hal
  have HWB : Hid (∀ x, Wrote B lo w2 x → Below w0.heap.size w0 x) := fun x k => hb0.trans (((Wrote.of (B := B) (lo := lo) hal).trans k).below hN (by omega) (by have := hb0.size; omega))
  have hr0 : Wr w2 B lo (xs ++ flsB (F.take 0) m) := by simpa [flsB] using h.below hal
  have HR0 := hide hr0
  have XF0 : Hid (fB 0 m = putL [aT]) := (show fB 0 m = putL [aT] from by simp [fB, EaT])
  have XF1 : Hid (fB 1 m = putL [aS]) := (show fB 1 m = putL [aS] from by simp [fB, EaS])
  have XF2 : Hid (fB 2 m = putL [aL]) := (show fB 2 m = putL [aL] from by simp [fB, EaL])
  have XF3 : Hid (fB 3 m = putL [aC]) := (show fB 3 m = putL [aC] from by simp [fB, EaC])
  have XF4 : Hid (fB 4 m = putL [if m.yes then 1 else 0]) := (show fB 4 m = putL [if m.yes then 1 else 0] from by simp [fB])
  have XF5 : Hid (fB 5 m = putL [(m.list.length : Int)] ++ tmsB m.list) := (show fB 5 m = putL [(m.list.length : Int)] ++ tmsB m.list from by simp [fB])
  have XF6 : Hid (fB 6 m = entB m.ent) := (show fB 6 m = entB m.ent from by simp [fB])
  have XF7 : Hid (fB 7 m = ptB m.part) := (show fB 7 m = ptB m.part from by simp [fB])
  clear hr0 h hal b0 b1 bg e0 hlt hle hg hF hpre hfit hM' hb0 hnF EaK EaF EaO EaT EaS EaL EaC EaY Ell Eek Eef Een Etl Eps Epi Epm Edl
  go_enter Tryz.func70, Tryz.ntmps70
  go_wp2_with (rw [hw2])
  go_loopw [10] (fun c wr => ∃ t : Nat, t ≤ n ∧ c = .int .i64 t ∧ Wr wr B lo (xs ++ flsB (F.take t) m) ∧ Wrote B lo w2 wr) (fun c _ => n - (intOf c).toNat)
  case atStart => exact ⟨0, by omega, rfl, unhide HR0, Wrote.refl _ _ _⟩
  case round =>
    obtain ⟨t, ht, rfl, hw, hwr⟩ := hrel
    by_cases hlt : t < n
    · have hltF : t < F.length := by rw [unhide HNF]; exact hlt
      obtain ⟨x0, x1, x2⟩ := unhide HBX wr hwr
      obtain ⟨f, hf⟩ : ∃ f, F[t] = f := ⟨_, rfl⟩
      have hcf' : wr.cell? ⟨g, t, none⟩ = some (.int .i64 f) := by
        rw [cell_of_row _ _ _ _ _ _ x2]
        simp [hltF, hf]
      have hcf : wr.cell? ⟨g, 0 + t, none⟩ = some (.int .i64 f) := by rw [Nat.zero_add]; exact hcf'
      have hff := unhide HF f (by rw [← hf]; exact List.getElem_mem hltF)
      have htk := take_fls F m t hltF
      rw [hf] at htk
      have hzl : (xs ++ flsB (F.take t) m).length ≤ 4000 := by
        have := unhide HPRE t hltF
        simp only [List.length_append]
        omega
      have p0 : wr.cell? ⟨w.heap.size, 0, none⟩ = some (.pointer (some ⟨B, 0, none⟩)) := cell_of_heap x0
      have p1 : wr.cell? ⟨w.heap.size, 1, none⟩ = some (.pointer (some ⟨B, 0, none⟩)) := cell_of_heap x0
      have p2 : wr.cell? ⟨w.heap.size, 2, none⟩ = some (.pointer (some ⟨B, 0, none⟩)) := cell_of_heap x0
      have m3 : wr.cell? ⟨w.heap.size + 1, 3, none⟩ = some (.int .i64 aT) := cell_of_heap x1
      have m4 : wr.cell? ⟨w.heap.size + 1, 4, none⟩ = some (.int .i64 aS) := cell_of_heap x1
      have m5 : wr.cell? ⟨w.heap.size + 1, 5, none⟩ = some (.int .i64 aL) := cell_of_heap x1
      have m6 : wr.cell? ⟨w.heap.size + 1, 6, none⟩ = some (.int .i64 aC) := cell_of_heap x1
      have m7 : wr.cell? ⟨w.heap.size + 1, 7, none⟩ = some (.bool aY) := cell_of_heap x1
      have m8 : wr.cell? ⟨w.heap.size + 1, 8, none⟩ = some (.slice la ll lc) := cell_of_heap x1
      have m9 : wr.cell? ⟨w.heap.size + 1, 9, none⟩ = some (.int .i64 ek) := cell_of_heap x1
      have m10 : wr.cell? ⟨w.heap.size + 1, 10, none⟩ = some (.int .i64 ef) := cell_of_heap x1
      have m11 : wr.cell? ⟨w.heap.size + 1, 11, none⟩ = some (.int .i64 en) := cell_of_heap x1
      have m12 : wr.cell? ⟨w.heap.size + 1, 12, none⟩ = some (.slice ta tl tc) := cell_of_heap x1
      have m13 : wr.cell? ⟨w.heap.size + 1, 13, none⟩ = some (.int .i64 ps) := cell_of_heap x1
      have m14 : wr.cell? ⟨w.heap.size + 1, 14, none⟩ = some (.int .i64 pi) := cell_of_heap x1
      have m15 : wr.cell? ⟨w.heap.size + 1, 15, none⟩ = some (.int .i64 pm) := cell_of_heap x1
      have m16 : wr.cell? ⟨w.heap.size + 1, 16, none⟩ = some (.slice da dl dc) := cell_of_heap x1
      have HTK := hide htk
      have HWR := hide hwr
      have hbw := unhide HWB wr hwr
      have hmay := hff.2
      have hfr := hff.1
      by_cases h0 : f = 0
      case pos =>
        subst h0
        have HC := hide (unhide HNU wr _ aT hw (unhide HT) hzl)
        clear hw hwr hbw hmay hfr hff htk hzl x0 x1 x2 hf
        go_wp2_with fail
        refine (unhide HC).mono ?_
        rintro e y1 ⟨rfl, q1, q2⟩
        have HR : Hid (Wr y1 B lo (xs ++ flsB (F.take (t + 1)) m) ∧ Wrote B lo w2 y1) := ⟨by rw [unhide HTK, unhide XF0]; simpa only [List.append_assoc] using q1, (unhide HWR).trans q2⟩
        clear q1 q2 HC
        go_wp2
        go_roundw
        case rel => exact ⟨t + 1, by omega, by go_num, (unhide HR).1, (unhide HR).2⟩
        case measure => simp [intOf]; omega
      by_cases h1 : f = 1
      case pos =>
        subst h1
        have HC := hide (unhide HNU wr _ aS hw (unhide HSl) hzl)
        clear hw hwr hbw hmay hfr hff htk hzl x0 x1 x2 hf
        go_wp2_with fail
        refine (unhide HC).mono ?_
        rintro e y1 ⟨rfl, q1, q2⟩
        have HR : Hid (Wr y1 B lo (xs ++ flsB (F.take (t + 1)) m) ∧ Wrote B lo w2 y1) := ⟨by rw [unhide HTK, unhide XF1]; simpa only [List.append_assoc] using q1, (unhide HWR).trans q2⟩
        clear q1 q2 HC
        go_wp2
        go_roundw
        case rel => exact ⟨t + 1, by omega, by go_num, (unhide HR).1, (unhide HR).2⟩
        case measure => simp [intOf]; omega
      by_cases h2 : f = 2
      case pos =>
        subst h2
        have HC := hide (unhide HNU wr _ aL hw (unhide HLa) hzl)
        clear hw hwr hbw hmay hfr hff htk hzl x0 x1 x2 hf
        go_wp2_with fail
        refine (unhide HC).mono ?_
        rintro e y1 ⟨rfl, q1, q2⟩
        have HR : Hid (Wr y1 B lo (xs ++ flsB (F.take (t + 1)) m) ∧ Wrote B lo w2 y1) := ⟨by rw [unhide HTK, unhide XF2]; simpa only [List.append_assoc] using q1, (unhide HWR).trans q2⟩
        clear q1 q2 HC
        go_wp2
        go_roundw
        case rel => exact ⟨t + 1, by omega, by go_num, (unhide HR).1, (unhide HR).2⟩
        case measure => simp [intOf]; omega
      by_cases h3 : f = 3
      case pos =>
        subst h3
        have HC := hide (unhide HNU wr _ aC hw (unhide HCo) hzl)
        clear hw hwr hbw hmay hfr hff htk hzl x0 x1 x2 hf
        go_wp2_with fail
        refine (unhide HC).mono ?_
        rintro e y1 ⟨rfl, q1, q2⟩
        have HR : Hid (Wr y1 B lo (xs ++ flsB (F.take (t + 1)) m) ∧ Wrote B lo w2 y1) := ⟨by rw [unhide HTK, unhide XF3]; simpa only [List.append_assoc] using q1, (unhide HWR).trans q2⟩
        clear q1 q2 HC
        go_wp2
        go_roundw
        case rel => exact ⟨t + 1, by omega, by go_num, (unhide HR).1, (unhide HR).2⟩
        case measure => simp [intOf]; omega
      by_cases h4 : f = 4
      case pos =>
        subst h4
        have HC := hide (unhide HFL wr _ hw hzl)
        clear hw hwr hbw hmay hfr hff htk hzl x0 x1 x2 hf
        go_wp2_with fail
        refine (unhide HC).mono ?_
        rintro e y1 ⟨rfl, q1, q2⟩
        have HR : Hid (Wr y1 B lo (xs ++ flsB (F.take (t + 1)) m) ∧ Wrote B lo w2 y1) := ⟨by rw [unhide HTK, unhide XF4]; simpa only [List.append_assoc] using q1, (unhide HWR).trans q2⟩
        clear q1 q2 HC
        go_wp2
        go_roundw
        case rel => exact ⟨t + 1, by omega, by go_num, (unhide HR).1, (unhide HR).2⟩
        case measure => simp [intOf]; omega
      by_cases h5 : f = 5
      case pos =>
        subst h5
        have HC := hide (unhide HLI wr _ hw hbw hzl hmay)
        clear hw hwr hbw hmay hfr hff htk hzl x0 x1 x2 hf
        go_wp2_with fail
        refine (unhide HC).mono ?_
        rintro e y1 ⟨rfl, q1, q2⟩
        have HR : Hid (Wr y1 B lo (xs ++ flsB (F.take (t + 1)) m) ∧ Wrote B lo w2 y1) := ⟨by rw [unhide HTK, unhide XF5]; simpa only [List.append_assoc] using q1, (unhide HWR).trans q2⟩
        clear q1 q2 HC
        go_wp2
        go_roundw
        case rel => exact ⟨t + 1, by omega, by go_num, (unhide HR).1, (unhide HR).2⟩
        case measure => simp [intOf]; omega
      by_cases h6 : f = 6
      case pos =>
        subst h6
        have HC := hide (unhide HEN wr _ hw hbw hzl hmay)
        clear hw hwr hbw hmay hfr hff htk hzl x0 x1 x2 hf
        go_wp2_with fail
        refine (unhide HC).mono ?_
        rintro e y1 ⟨rfl, q1, q2⟩
        have HR : Hid (Wr y1 B lo (xs ++ flsB (F.take (t + 1)) m) ∧ Wrote B lo w2 y1) := ⟨by rw [unhide HTK, unhide XF6]; simpa only [List.append_assoc] using q1, (unhide HWR).trans q2⟩
        clear q1 q2 HC
        go_wp2
        go_roundw
        case rel => exact ⟨t + 1, by omega, by go_num, (unhide HR).1, (unhide HR).2⟩
        case measure => simp [intOf]; omega
      by_cases h7 : f = 7
      case pos =>
        subst h7
        have HC := hide (unhide HPT wr _ hw hbw hzl hmay)
        clear hw hwr hbw hmay hfr hff htk hzl x0 x1 x2 hf
        go_wp2_with fail
        refine (unhide HC).mono ?_
        rintro e y1 ⟨rfl, q1, q2⟩
        have HR : Hid (Wr y1 B lo (xs ++ flsB (F.take (t + 1)) m) ∧ Wrote B lo w2 y1) := ⟨by rw [unhide HTK, unhide XF7]; simpa only [List.append_assoc] using q1, (unhide HWR).trans q2⟩
        clear q1 q2 HC
        go_wp2
        go_roundw
        case rel => exact ⟨t + 1, by omega, by go_num, (unhide HR).1, (unhide HR).2⟩
        case measure => simp [intOf]; omega
      omega
    · obtain rfl : n = t := by omega
      have HE : Hid (Wr wr B lo (xs ++ flsB F m) ∧ Wrote B lo w wr) := by
        rw [List.take_of_length_le (by rw [unhide HNF]; exact Nat.le_refl _)] at hw
        exact ⟨hw, (unhide HW2).trans hwr⟩
      clear hw hwr
      go_wp2
      go_end0
      exact ⟨rfl, unhide HE⟩
end Go.Proofs.YtggllgimlfchhabGreat
