/- Several texts as one. -/
import Derived.Test.YtggllgimlfchhabGreatCE
import Derived.Test.YtggllgimlfchhabGreatCF

/- Record: the document's MayMsg. -/
namespace Go.Proofs.YtggllgimlfchhabGreat
open Go.RowKit
set_option maxRecDepth 100000

/-- A whole variable loaded, where the guard is met. -/
theorem wpList_load_wanted {P : Program} {ops : Array Oper} {rest : List Oper} {o : Oper} {a : Act} {w : World} {Q : Exit → Act → World → Prop} (hw : Region.wanted o (yielded ops a.tmps) = true) (ty : TypeId) (x : Operand) (ho : o.op = .load ty x)
    (g : Nat) (hx : a.eval x = .pointer (some ⟨g, 0, none⟩)) (t : TypeId) (cs : Array Value) (fr : Nat × Nat) (d : TypeDesc) (hg : w.heap[g]? = some (.cells cs t fr))
    (hu : P.underlying ty = some d) (hd : (match d with | .struct _ | .array _ _ => true | _ => false) = true) (hi : (P.info? ty).map (·.size) = some cs.size)
    (h : wpList P ops Q rest (a.put o.dst (.agg cs)) w) : wpList P ops Q (o :: rest) a w := by
  unfold wpList
  rw [if_pos hw]
  exact Or.inl (wp_load_row ty x ho g hx t cs fr d hg hu hd hi h)
theorem plain_any (cs : Array Value) (m : MsgD) (w : World) (hM : SeesM w cs m) (h1 : 1 ≤ m.kind) (h6 : m.kind ≤ 6) :
    Calls Tryz.prog 40 #[.agg cs] w fun e w' => ∃ cs', e = .returned (.tuple #[.agg cs', .bool true]) ∧ SeesM w' cs' (plainM m) ∧ Below w.heap.size w w' := by
  by_cases k1 : m.kind = 1
  case pos =>
    have e : plainM m = ⟨m.kind, m.frm, m.to, m.term, m.slot, m.last, 0, false, [], dE, dP⟩ := by simp [plainM, k1]
    rw [e]
    exact plain1_any cs m w hM k1
  by_cases k2 : m.kind = 2
  case pos =>
    have e : plainM m = ⟨m.kind, m.frm, m.to, m.term, 0, 0, 0, m.yes, [], dE, dP⟩ := by simp [plainM, k2]
    rw [e]
    exact plain2_any cs m w hM k2
  by_cases k3 : m.kind = 3
  case pos =>
    have e : plainM m = ⟨m.kind, m.frm, m.to, m.term, m.slot, m.last, m.commit, false, m.list, dE, dP⟩ := by simp [plainM, k3]
    rw [e]
    exact plain3_any cs m w hM k3
  by_cases k4 : m.kind = 4
  case pos =>
    have e : plainM m = ⟨m.kind, m.frm, m.to, m.term, m.slot, 0, 0, m.yes, [], dE, dP⟩ := by simp [plainM, k4]
    rw [e]
    exact plain4_any cs m w hM k4
  by_cases k5 : m.kind = 5
  case pos =>
    have e : plainM m = ⟨m.kind, m.frm, m.to, m.term, m.slot, m.last, 0, false, [], dE, m.part⟩ := by simp [plainM, k5]
    rw [e]
    exact plain5_any cs m w hM k5
  by_cases k6 : m.kind = 6
  case pos =>
    have e : plainM m = ⟨m.kind, m.frm, m.to, 0, 0, 0, 0, false, [], m.ent, dP⟩ := by simp [plainM, k6]
    rw [e]
    exact plain6_any cs m w hM k6
  omega
/-- What a message of its kind has besides is to be, too. -/
def tailM (m : MsgD) : Bool := if m.kind = 3 then decide (m.list.length ≤ 4096) && m.list.all mayTm else if m.kind = 6 then mayE m.ent else if m.kind = 5 then mayP m.part else true
def refMay (m : MsgD) : Bool := decide (1 ≤ m.kind ∧ m.kind ≤ 6) && decide (m = plainM m) && isRep m.frm && isRep m.to && isCnt m.term && isCnt m.slot && isCnt m.last && isCnt m.commit && tailM m

set_option maxHeartbeats 3200000 in
theorem mayMsg_any (cs : Array Value) (m : MsgD) (w : World) (hM : SeesM w cs m) (oM : OkM m) (oP : OkM (plainM m)) :
    Calls Tryz.prog 14 #[.agg cs] w fun e w' => e = .returned (.bool (refMay m)) ∧ Below w.heap.size w w' := by
  have HM := hide hM
  have HOM := hide oM
  have HOP := hide oP
  have HPL : Hid (1 ≤ m.kind → m.kind ≤ 6 → ∀ x, Below w.heap.size w x → Calls Tryz.prog 40 #[.agg cs] x fun e w' => ∃ cs', e = .returned (.tuple #[.agg cs', .bool true]) ∧ SeesM w' cs' (plainM m) ∧ Below x.heap.size x w') := fun h1 h6 x hx => plain_any cs m x (hM.below hx) h1 h6
  have HPD : Hid ((m.kind ≠ 1 ∧ m.kind ≠ 2 ∧ m.kind ≠ 3 ∧ m.kind ≠ 4 ∧ m.kind ≠ 5 ∧ m.kind ≠ 6) → ∀ x, Below w.heap.size w x → Calls Tryz.prog 40 #[.agg cs] x fun e w' => ∃ cs', e = .returned (.tuple #[.agg cs', .bool false]) ∧ SeesM w' cs' ⟨m.kind, m.frm, m.to, m.term, 0, 0, 0, false, [], dE, dP⟩ ∧ Below x.heap.size x w') := fun h x hx => plainD_any cs m x (hM.below hx) h
  obtain ⟨RR, hRR⟩ : ∃ b, refMay m = b := ⟨_, rfl⟩
  rw [hRR]
  have HRR := hide hRR
  clear hRR oM oP
  have hL : ∃ lv tv dv, cs = #[.int .i64 m.kind, .int .i64 m.frm, .int .i64 m.to, .int .i64 m.term, .int .i64 m.slot, .int .i64 m.last, .int .i64 m.commit, .bool m.yes, lv, .int .i64 m.ent.kind, .int .i64 m.ent.frm, .int .i64 m.ent.num, tv, .int .i64 m.part.slot, .int .i64 m.part.idx, .int .i64 m.part.many, dv] ∧ SeesTms w lv m.list ∧ SeesTs w tv m.ent.txns ∧ Sees w .u8 dv m.part.data := hM
  obtain ⟨lv, tv, dv, rfl, k1, k2, k3⟩ := hL
  have K1 := hide k1
  have K2 : Hid (SeesE w #[.int .i64 m.ent.kind, .int .i64 m.ent.frm, .int .i64 m.ent.num, tv] m.ent) := ⟨_, rfl, k2⟩
  have K3 : Hid (SeesP w #[.int .i64 m.part.slot, .int .i64 m.part.idx, .int .i64 m.part.many, dv] m.part) := ⟨_, rfl, k3⟩
  obtain ⟨la, lc, _, _, rfl, _⟩ := k1
  obtain ⟨ta, tc, _, _, rfl, _⟩ := k2
  obtain ⟨da, dc, rfl, _⟩ := k3
  obtain ⟨aK, EaK⟩ : ∃ x, m.kind = x := ⟨_, rfl⟩
  obtain ⟨aF, EaF⟩ : ∃ x, m.frm = x := ⟨_, rfl⟩
  obtain ⟨aO, EaO⟩ : ∃ x, m.to = x := ⟨_, rfl⟩
  obtain ⟨aT, EaT⟩ : ∃ x, m.term = x := ⟨_, rfl⟩
  obtain ⟨aS, EaS⟩ : ∃ x, m.slot = x := ⟨_, rfl⟩
  obtain ⟨aL, EaL⟩ : ∃ x, m.last = x := ⟨_, rfl⟩
  obtain ⟨aC, EaC⟩ : ∃ x, m.commit = x := ⟨_, rfl⟩
  obtain ⟨aY, EaY⟩ : ∃ x, m.yes = x := ⟨_, rfl⟩
  obtain ⟨ll, Ell⟩ : ∃ x, m.list.length = x := ⟨_, rfl⟩
  obtain ⟨ek, Eek⟩ : ∃ x, m.ent.kind = x := ⟨_, rfl⟩
  obtain ⟨ef, Eef⟩ : ∃ x, m.ent.frm = x := ⟨_, rfl⟩
  obtain ⟨en, Een⟩ : ∃ x, m.ent.num = x := ⟨_, rfl⟩
  obtain ⟨tl, Etl⟩ : ∃ x, m.ent.txns.length = x := ⟨_, rfl⟩
  obtain ⟨ps, Eps⟩ : ∃ x, m.part.slot = x := ⟨_, rfl⟩
  obtain ⟨pi, Epi⟩ : ∃ x, m.part.idx = x := ⟨_, rfl⟩
  obtain ⟨pm, Epm⟩ : ∃ x, m.part.many = x := ⟨_, rfl⟩
  obtain ⟨dl, Edl⟩ : ∃ x, m.part.data.length = x := ⟨_, rfl⟩
  simp only [EaK, EaF, EaO, EaT, EaS, EaL, EaC, EaY, Ell, Eek, Eef, Een, Etl, Eps, Epi, Epm, Edl] at HM HPL HPD ⊢
  rw [Ell] at K1
  simp only [Eek, Eef, Een, Etl] at K2
  simp only [Eps, Epi, Epm, Edl] at K3
  have hR : refMay m = (decide (1 ≤ aK ∧ aK ≤ 6) && decide (m = plainM m) && isRep aF && isRep aO && isCnt aT && isCnt aS && isCnt aL && isCnt aC && (if aK = 3 then decide (m.list.length ≤ 4096) && m.list.all mayTm else if aK = 6 then mayE m.ent else if aK = 5 then mayP m.part else true)) := by
    unfold refMay tailM; rw [EaK, EaF, EaO, EaT, EaS, EaL, EaC]
  rw [unhide HRR] at hR
  have HR := hide hR
  clear hR hM EaK EaF EaO EaT EaS EaL EaC EaY Ell Eek Eef Een Etl Eps Epi Epm Edl
  have hB1 : Below w.heap.size w (w.alloc (.cells #[.int .i64 aK, .int .i64 aF, .int .i64 aO, .int .i64 aT, .int .i64 aS, .int .i64 aL, .int .i64 aC, .bool aY, .slice la ll lc, .int .i64 ek, .int .i64 ef, .int .i64 en, .slice ta tl tc, .int .i64 ps, .int .i64 pi, .int .i64 pm, .slice da dl dc] 30)) := (Below.refl _ _).alloc (Nat.le_refl _) _
  have HB1 := hide hB1
  have HW1 : Hid ((w.alloc (.cells #[.int .i64 aK, .int .i64 aF, .int .i64 aO, .int .i64 aT, .int .i64 aS, .int .i64 aL, .int .i64 aC, .bool aY, .slice la ll lc, .int .i64 ek, .int .i64 ef, .int .i64 en, .slice ta tl tc, .int .i64 ps, .int .i64 pi, .int .i64 pm, .slice da dl dc] 30)).heap[w.heap.size]? = some (.cells #[.int .i64 aK, .int .i64 aF, .int .i64 aO, .int .i64 aT, .int .i64 aS, .int .i64 aL, .int .i64 aC, .bool aY, .slice la ll lc, .int .i64 ek, .int .i64 ef, .int .i64 en, .slice ta tl tc, .int .i64 ps, .int .i64 pi, .int .i64 pm, .slice da dl dc] 30)) := heap_alloc_new w _
  clear hB1
  obtain ⟨w1, hw1⟩ : ∃ y, w.alloc (.cells #[.int .i64 aK, .int .i64 aF, .int .i64 aO, .int .i64 aT, .int .i64 aS, .int .i64 aL, .int .i64 aC, .bool aY, .slice la ll lc, .int .i64 ek, .int .i64 ef, .int .i64 en, .slice ta tl tc, .int .i64 ps, .int .i64 pi, .int .i64 pm, .slice da dl dc] 30) = y := ⟨_, rfl⟩
  rw [hw1] at HB1 HW1
  by_cases hk : 1 ≤ aK ∧ aK ≤ 6
  case neg =>
    have HC := hide (unhide HPD ⟨by omega, by omega, by omega, by omega, by omega, by omega⟩ _ (unhide HB1))
    clear HPL HPD
    go_enter Tryz.func14, Tryz.ntmps14
    go_wp2_with (first | rw [hw1] | refine wpList_load_wanted (by rfl) 30 _ rfl w.heap.size rfl 30 _ (0, 0) _ (unhide HW1) Tryz.underlying30 rfl (by kernel_rfl) ?_)
    refine (unhide HC).mono ?_
    rintro e w2 ⟨cx, rfl, hsx, hb2⟩
    obtain ⟨xaK, xaF, xaO, xaT, xaS, xaL, xaC, xaY, xla, xll, xlc, xek, xef, xen, xta, xtl, xtc, xps, xpi, xpm, xda, xdl, xdc, rfl, _, _, _⟩ := hsx.shape
    have HZa : Hid ((w2.alloc (.cells #[.int .i64 0, .int .i64 0, .int .i64 0, .int .i64 0, .int .i64 0, .int .i64 0, .int .i64 0, .bool false, .slice none 0 0, .int .i64 0, .int .i64 0, .int .i64 0, .slice none 0 0, .int .i64 0, .int .i64 0, .int .i64 0, .slice none 0 0] 30)).heap[w2.heap.size]? = some (.cells #[.int .i64 0, .int .i64 0, .int .i64 0, .int .i64 0, .int .i64 0, .int .i64 0, .int .i64 0, .bool false, .slice none 0 0, .int .i64 0, .int .i64 0, .int .i64 0, .slice none 0 0, .int .i64 0, .int .i64 0, .int .i64 0, .slice none 0 0] 30)) := heap_alloc_new w2 _
    have HB9 : Hid (Below w.heap.size w ((w2.alloc (.cells #[.int .i64 0, .int .i64 0, .int .i64 0, .int .i64 0, .int .i64 0, .int .i64 0, .int .i64 0, .bool false, .slice none 0 0, .int .i64 0, .int .i64 0, .int .i64 0, .slice none 0 0, .int .i64 0, .int .i64 0, .int .i64 0, .slice none 0 0] 30)).setRow w2.heap.size #[.int .i64 xaK, .int .i64 xaF, .int .i64 xaO, .int .i64 xaT, .int .i64 xaS, .int .i64 xaL, .int .i64 xaC, .bool xaY, .slice xla xll xlc, .int .i64 xek, .int .i64 xef, .int .i64 xen, .slice xta xtl xtc, .int .i64 xps, .int .i64 xpi, .int .i64 xpm, .slice xda xdl xdc])) := below_setRow (((unhide HB1).trans (hb2.mono (unhide HB1).size)).alloc (Nat.le_trans (unhide HB1).size hb2.size) _) (Nat.le_trans (unhide HB1).size hb2.size)
    obtain ⟨wa, hwa⟩ : ∃ y, (w2.alloc (.cells #[.int .i64 0, .int .i64 0, .int .i64 0, .int .i64 0, .int .i64 0, .int .i64 0, .int .i64 0, .bool false, .slice none 0 0, .int .i64 0, .int .i64 0, .int .i64 0, .slice none 0 0, .int .i64 0, .int .i64 0, .int .i64 0, .slice none 0 0] 30)) = y := ⟨_, rfl⟩
    rw [hwa] at HZa HB9
    obtain ⟨w3, hw3⟩ : ∃ y, wa.setRow w2.heap.size #[.int .i64 xaK, .int .i64 xaF, .int .i64 xaO, .int .i64 xaT, .int .i64 xaS, .int .i64 xaL, .int .i64 xaC, .bool xaY, .slice xla xll xlc, .int .i64 xek, .int .i64 xef, .int .i64 xen, .slice xta xtl xtc, .int .i64 xps, .int .i64 xpi, .int .i64 xpm, .slice xda xdl xdc] = y := ⟨_, rfl⟩
    rw [hw3] at HB9
    clear hb2 hsx
    go_wp2_with (first | rw [hw3] | rw [hwa] | refine wpList_store_row rfl 30 _ _ rfl w2.heap.size _ _ rfl rfl 30 (unhide HZa) (by kernel_rfl) rfl (by first | kernel_rfl | simp [Value.oneCell']) ?_)
    go_ret
    exact ⟨retBool (by rw [unhide HR, decide_eq_false hk]; simp), unhide HB9⟩
  case pos =>
  have HC := hide (unhide HPL hk.1 hk.2 _ (unhide HB1))
  clear HPL HPD
  go_enter Tryz.func14, Tryz.ntmps14
  go_wp2_with (first | rw [hw1] | refine wpList_load_wanted (by rfl) 30 _ rfl w.heap.size rfl 30 _ (0, 0) _ (unhide HW1) Tryz.underlying30 rfl (by kernel_rfl) ?_)
  refine (unhide HC).mono ?_
  rintro e w2 ⟨cx, rfl, hsx, hb2⟩
  have HSX := hide hsx
  obtain ⟨xaK, xaF, xaO, xaT, xaS, xaL, xaC, xaY, xla, xll, xlc, xek, xef, xen, xta, xtl, xtc, xps, xpi, xpm, xda, xdl, xdc, rfl, _, _, _⟩ := hsx.shape
  have hx2 : w2.heap[w.heap.size]? = some (.cells #[.int .i64 aK, .int .i64 aF, .int .i64 aO, .int .i64 aT, .int .i64 aS, .int .i64 aL, .int .i64 aC, .bool aY, .slice la ll lc, .int .i64 ek, .int .i64 ef, .int .i64 en, .slice ta tl tc, .int .i64 ps, .int .i64 pi, .int .i64 pm, .slice da dl dc] 30) := (hb2.block _ (Array.getElem?_eq_some_iff.1 (unhide HW1)).1).trans (unhide HW1)
  have hB2 : Below w.heap.size w w2 := (unhide HB1).trans (hb2.mono (unhide HB1).size)
  have hne : w.heap.size < w2.heap.size := (Array.getElem?_eq_some_iff.1 hx2).1
  have HZa : Hid ((w2.alloc (.cells #[.int .i64 0, .int .i64 0, .int .i64 0, .int .i64 0, .int .i64 0, .int .i64 0, .int .i64 0, .bool false, .slice none 0 0, .int .i64 0, .int .i64 0, .int .i64 0, .slice none 0 0, .int .i64 0, .int .i64 0, .int .i64 0, .slice none 0 0] 30)).heap[w2.heap.size]? = some (.cells #[.int .i64 0, .int .i64 0, .int .i64 0, .int .i64 0, .int .i64 0, .int .i64 0, .int .i64 0, .bool false, .slice none 0 0, .int .i64 0, .int .i64 0, .int .i64 0, .slice none 0 0, .int .i64 0, .int .i64 0, .int .i64 0, .slice none 0 0] 30)) := heap_alloc_new w2 _
  have hal : Below w2.heap.size w2 ((w2.alloc (.cells #[.int .i64 0, .int .i64 0, .int .i64 0, .int .i64 0, .int .i64 0, .int .i64 0, .int .i64 0, .bool false, .slice none 0 0, .int .i64 0, .int .i64 0, .int .i64 0, .slice none 0 0, .int .i64 0, .int .i64 0, .int .i64 0, .slice none 0 0] 30)).setRow w2.heap.size #[.int .i64 xaK, .int .i64 xaF, .int .i64 xaO, .int .i64 xaT, .int .i64 xaS, .int .i64 xaL, .int .i64 xaC, .bool xaY, .slice xla xll xlc, .int .i64 xek, .int .i64 xef, .int .i64 xen, .slice xta xtl xtc, .int .i64 xps, .int .i64 xpi, .int .i64 xpm, .slice xda xdl xdc]) := below_setRow ((Below.refl _ _).alloc (Nat.le_refl _) _) (Nat.le_refl _)
  have hx3 : ((w2.alloc (.cells #[.int .i64 0, .int .i64 0, .int .i64 0, .int .i64 0, .int .i64 0, .int .i64 0, .int .i64 0, .bool false, .slice none 0 0, .int .i64 0, .int .i64 0, .int .i64 0, .slice none 0 0, .int .i64 0, .int .i64 0, .int .i64 0, .slice none 0 0] 30)).setRow w2.heap.size #[.int .i64 xaK, .int .i64 xaF, .int .i64 xaO, .int .i64 xaT, .int .i64 xaS, .int .i64 xaL, .int .i64 xaC, .bool xaY, .slice xla xll xlc, .int .i64 xek, .int .i64 xef, .int .i64 xen, .slice xta xtl xtc, .int .i64 xps, .int .i64 xpi, .int .i64 xpm, .slice xda xdl xdc]).heap[w.heap.size]? = some (.cells #[.int .i64 aK, .int .i64 aF, .int .i64 aO, .int .i64 aT, .int .i64 aS, .int .i64 aL, .int .i64 aC, .bool aY, .slice la ll lc, .int .i64 ek, .int .i64 ef, .int .i64 en, .slice ta tl tc, .int .i64 ps, .int .i64 pi, .int .i64 pm, .slice da dl dc] 30) := (setRow_other _ _ _ _ (by omega)).trans ((Below.heap_alloc _ _ _ hne).trans hx2)
  have hz3 : ((w2.alloc (.cells #[.int .i64 0, .int .i64 0, .int .i64 0, .int .i64 0, .int .i64 0, .int .i64 0, .int .i64 0, .bool false, .slice none 0 0, .int .i64 0, .int .i64 0, .int .i64 0, .slice none 0 0, .int .i64 0, .int .i64 0, .int .i64 0, .slice none 0 0] 30)).setRow w2.heap.size #[.int .i64 xaK, .int .i64 xaF, .int .i64 xaO, .int .i64 xaT, .int .i64 xaS, .int .i64 xaL, .int .i64 xaC, .bool xaY, .slice xla xll xlc, .int .i64 xek, .int .i64 xef, .int .i64 xen, .slice xta xtl xtc, .int .i64 xps, .int .i64 xpi, .int .i64 xpm, .slice xda xdl xdc]).heap[w2.heap.size]? = some (.cells #[.int .i64 xaK, .int .i64 xaF, .int .i64 xaO, .int .i64 xaT, .int .i64 xaS, .int .i64 xaL, .int .i64 xaC, .bool xaY, .slice xla xll xlc, .int .i64 xek, .int .i64 xef, .int .i64 xen, .slice xta xtl xtc, .int .i64 xps, .int .i64 xpi, .int .i64 xpm, .slice xda xdl xdc] 30) := setRow_heap _ _ _ _ _ _ (unhide HZa)
  obtain ⟨wa, hwa⟩ : ∃ y, (w2.alloc (.cells #[.int .i64 0, .int .i64 0, .int .i64 0, .int .i64 0, .int .i64 0, .int .i64 0, .int .i64 0, .bool false, .slice none 0 0, .int .i64 0, .int .i64 0, .int .i64 0, .slice none 0 0, .int .i64 0, .int .i64 0, .int .i64 0, .slice none 0 0] 30)) = y := ⟨_, rfl⟩
  rw [hwa] at HZa hal hx3 hz3
  obtain ⟨w3, hw3⟩ : ∃ y, wa.setRow w2.heap.size #[.int .i64 xaK, .int .i64 xaF, .int .i64 xaO, .int .i64 xaT, .int .i64 xaS, .int .i64 xaL, .int .i64 xaC, .bool xaY, .slice xla xll xlc, .int .i64 xek, .int .i64 xef, .int .i64 xen, .slice xta xtl xtc, .int .i64 xps, .int .i64 xpi, .int .i64 xpm, .slice xda xdl xdc] = y := ⟨_, rfl⟩
  rw [hw3] at hal hx3 hz3
  have hB3 : Below w.heap.size w w3 := hB2.trans (hal.mono hB2.size)
  have HSM := hide (refSameMsg_any _ _ m (plainM m) w3 ((unhide HM).below hB3) ((unhide HSX).below hal) (unhide HOM) (unhide HOP))
  have HX3 := hide hx3
  have HZ3 := hide hz3
  have HB3 := hide hB3
  clear hB3 hx3 hz3 hal hB2 hx2 hb2 hsx HC HSX hne
  go_wp2_with (first | rw [hw3] | rw [hwa] | refine wpList_store_row rfl 30 _ _ rfl w2.heap.size _ _ rfl rfl 30 (unhide HZa) (by kernel_rfl) rfl (by first | kernel_rfl | simp [Value.oneCell']) ?_ | refine wpList_load_wanted (by rfl) 30 _ rfl w.heap.size rfl 30 _ (0, 0) _ (unhide HX3) Tryz.underlying30 rfl (by kernel_rfl) ?_ | refine wpList_load_wanted (by rfl) 30 _ rfl w2.heap.size rfl 30 _ (0, 0) _ (unhide HZ3) Tryz.underlying30 rfl (by kernel_rfl) ?_)
  refine (unhide HSM).mono ?_
  rintro e w4 ⟨rfl, hb4⟩
  have hx4 : w4.heap[w.heap.size]? = some (.cells #[.int .i64 aK, .int .i64 aF, .int .i64 aO, .int .i64 aT, .int .i64 aS, .int .i64 aL, .int .i64 aC, .bool aY, .slice la ll lc, .int .i64 ek, .int .i64 ef, .int .i64 en, .slice ta tl tc, .int .i64 ps, .int .i64 pi, .int .i64 pm, .slice da dl dc] 30) := (hb4.block _ (Array.getElem?_eq_some_iff.1 (unhide HX3)).1).trans (unhide HX3)
  have hB4 : Below w.heap.size w w4 := (unhide HB3).trans (hb4.mono (unhide HB3).size)
  have HB4 := hide hB4
  clear HSM hb4
  have c0 : w4.cell? ⟨w.heap.size, 0, none⟩ = some (.int .i64 aK) := cell_of_heap hx4
  have c1 : w4.cell? ⟨w.heap.size, 1, none⟩ = some (.int .i64 aF) := cell_of_heap hx4
  have c2 : w4.cell? ⟨w.heap.size, 2, none⟩ = some (.int .i64 aO) := cell_of_heap hx4
  have c3 : w4.cell? ⟨w.heap.size, 3, none⟩ = some (.int .i64 aT) := cell_of_heap hx4
  have c4 : w4.cell? ⟨w.heap.size, 4, none⟩ = some (.int .i64 aS) := cell_of_heap hx4
  have c5 : w4.cell? ⟨w.heap.size, 5, none⟩ = some (.int .i64 aL) := cell_of_heap hx4
  have c6 : w4.cell? ⟨w.heap.size, 6, none⟩ = some (.int .i64 aC) := cell_of_heap hx4
  have c7 : w4.cell? ⟨w.heap.size, 7, none⟩ = some (.bool aY) := cell_of_heap hx4
  have c8 : w4.cell? ⟨w.heap.size, 8, none⟩ = some (.slice la ll lc) := cell_of_heap hx4
  have c9 : w4.cell? ⟨w.heap.size, 9, none⟩ = some (.int .i64 ek) := cell_of_heap hx4
  have c10 : w4.cell? ⟨w.heap.size, 10, none⟩ = some (.int .i64 ef) := cell_of_heap hx4
  have c11 : w4.cell? ⟨w.heap.size, 11, none⟩ = some (.int .i64 en) := cell_of_heap hx4
  have c12 : w4.cell? ⟨w.heap.size, 12, none⟩ = some (.slice ta tl tc) := cell_of_heap hx4
  have c13 : w4.cell? ⟨w.heap.size, 13, none⟩ = some (.int .i64 ps) := cell_of_heap hx4
  have c14 : w4.cell? ⟨w.heap.size, 14, none⟩ = some (.int .i64 pi) := cell_of_heap hx4
  have c15 : w4.cell? ⟨w.heap.size, 15, none⟩ = some (.int .i64 pm) := cell_of_heap hx4
  have c16 : w4.cell? ⟨w.heap.size, 16, none⟩ = some (.slice da dl dc) := cell_of_heap hx4
  have HLs : Hid (Calls Tryz.prog 41 #[.slice la ll lc] w4 fun e w' => e = .returned (.bool (decide (m.list.length ≤ 4096) && m.list.all mayTm)) ∧ Below w4.heap.size w4 w') := refList_any _ m.list w4 ((unhide K1).below hB4) (unhide HOM).list
  have HEn : Hid (Calls Tryz.prog 10 #[.agg #[.int .i64 ek, .int .i64 ef, .int .i64 en, .slice ta tl tc]] w4 fun e w' => e = .returned (.bool (mayE m.ent)) ∧ Below w4.heap.size w4 w') := mayEntry_any _ m.ent w4 ((unhide K2).below hB4) (unhide HOM).ent
  have HPt : Hid (Calls Tryz.prog 42 #[.agg #[.int .i64 ps, .int .i64 pi, .int .i64 pm, .slice da dl dc]] w4 fun e w' => e = .returned (.bool (mayP m.part)) ∧ Below w4.heap.size w4 w') := mayPart_any _ m.part w4 ((unhide K3).below hB4)
  obtain ⟨DD, hDD⟩ : ∃ b, decide (m = plainM m) = b := ⟨_, rfl⟩
  rw [hDD] at HR ⊢
  clear hx4 hB4 hDD
  rw [decide_eq_true hk] at HR
  cases DD with
  | false =>
    go_wp2_with (first | (go_at_call 30; refine (replica_any _ _).mono ?_; rintro e w' ⟨rfl, rfl⟩) | (go_at_call 31; refine (count_any _ _).mono ?_; rintro e w' ⟨rfl, rfl⟩) | fail)
    go_ret
    exact ⟨retBool (by rw [unhide HR]; simp), unhide HB4⟩
  | true =>
  cases h1 : isRep aF with
  | false =>
    go_wp2_with (first | (go_at_call 30; refine (replica_any _ _).mono ?_; rintro e w' ⟨rfl, rfl⟩) | (go_at_call 31; refine (count_any _ _).mono ?_; rintro e w' ⟨rfl, rfl⟩) | fail)
    go_ret
    exact ⟨retBool (by rw [unhide HR, h1]; simp), unhide HB4⟩
  | true =>
  cases h2 : isRep aO with
  | false =>
    go_wp2_with (first | (go_at_call 30; refine (replica_any _ _).mono ?_; rintro e w' ⟨rfl, rfl⟩) | (go_at_call 31; refine (count_any _ _).mono ?_; rintro e w' ⟨rfl, rfl⟩) | fail)
    go_ret
    exact ⟨retBool (by rw [unhide HR, h1, h2]; simp), unhide HB4⟩
  | true =>
  cases h3 : isCnt aT with
  | false =>
    go_wp2_with (first | (go_at_call 30; refine (replica_any _ _).mono ?_; rintro e w' ⟨rfl, rfl⟩) | (go_at_call 31; refine (count_any _ _).mono ?_; rintro e w' ⟨rfl, rfl⟩) | fail)
    go_ret
    exact ⟨retBool (by rw [unhide HR, h1, h2, h3]; simp), unhide HB4⟩
  | true =>
  cases h4 : isCnt aS with
  | false =>
    go_wp2_with (first | (go_at_call 30; refine (replica_any _ _).mono ?_; rintro e w' ⟨rfl, rfl⟩) | (go_at_call 31; refine (count_any _ _).mono ?_; rintro e w' ⟨rfl, rfl⟩) | fail)
    go_ret
    exact ⟨retBool (by rw [unhide HR, h1, h2, h3, h4]; simp), unhide HB4⟩
  | true =>
  cases h5 : isCnt aL with
  | false =>
    go_wp2_with (first | (go_at_call 30; refine (replica_any _ _).mono ?_; rintro e w' ⟨rfl, rfl⟩) | (go_at_call 31; refine (count_any _ _).mono ?_; rintro e w' ⟨rfl, rfl⟩) | fail)
    go_ret
    exact ⟨retBool (by rw [unhide HR, h1, h2, h3, h4, h5]; simp), unhide HB4⟩
  | true =>
  cases h6 : isCnt aC with
  | false =>
    go_wp2_with (first | (go_at_call 30; refine (replica_any _ _).mono ?_; rintro e w' ⟨rfl, rfl⟩) | (go_at_call 31; refine (count_any _ _).mono ?_; rintro e w' ⟨rfl, rfl⟩) | fail)
    go_ret
    exact ⟨retBool (by rw [unhide HR, h1, h2, h3, h4, h5, h6]; simp), unhide HB4⟩
  | true =>
  have hRt : RR = (if aK = 3 then decide (m.list.length ≤ 4096) && m.list.all mayTm else if aK = 6 then mayE m.ent else if aK = 5 then mayP m.part else true) := by rw [unhide HR, h1, h2, h3, h4, h5, h6]; simp
  by_cases q3 : aK = 3
  case pos =>
    subst q3
    go_wp2_with (first | (go_at_call 30; refine (replica_any _ _).mono ?_; rintro e w' ⟨rfl, rfl⟩) | (go_at_call 31; refine (count_any _ _).mono ?_; rintro e w' ⟨rfl, rfl⟩) | fail)
    refine (unhide HLs).mono ?_
    rintro e w5 ⟨rfl, hb5⟩
    have HB9 : Hid (Below w.heap.size w w5) := (unhide HB4).trans (hb5.mono (unhide HB4).size)
    clear hb5
    go_wp2_with fail
    go_ret
    exact ⟨retBool (by rw [hRt]; simp), unhide HB9⟩
  by_cases q6 : aK = 6
  case pos =>
    subst q6
    go_wp2_with (first | (go_at_call 30; refine (replica_any _ _).mono ?_; rintro e w' ⟨rfl, rfl⟩) | (go_at_call 31; refine (count_any _ _).mono ?_; rintro e w' ⟨rfl, rfl⟩) | fail)
    refine (unhide HEn).mono ?_
    rintro e w5 ⟨rfl, hb5⟩
    have HB9 : Hid (Below w.heap.size w w5) := (unhide HB4).trans (hb5.mono (unhide HB4).size)
    clear hb5
    go_wp2_with fail
    go_ret
    exact ⟨retBool (by rw [hRt]; simp), unhide HB9⟩
  by_cases q5 : aK = 5
  case pos =>
    subst q5
    go_wp2_with (first | (go_at_call 30; refine (replica_any _ _).mono ?_; rintro e w' ⟨rfl, rfl⟩) | (go_at_call 31; refine (count_any _ _).mono ?_; rintro e w' ⟨rfl, rfl⟩) | fail)
    refine (unhide HPt).mono ?_
    rintro e w5 ⟨rfl, hb5⟩
    have HB9 : Hid (Below w.heap.size w w5) := (unhide HB4).trans (hb5.mono (unhide HB4).size)
    clear hb5
    go_wp2_with fail
    go_ret
    exact ⟨retBool (by rw [hRt]; simp), unhide HB9⟩
  case neg =>
    go_wp2_with (first | (go_at_call 30; refine (replica_any _ _).mono ?_; rintro e w' ⟨rfl, rfl⟩) | (go_at_call 31; refine (count_any _ _).mono ?_; rintro e w' ⟨rfl, rfl⟩) | fail)
    go_ret
    exact ⟨retBool (by rw [hRt, if_neg q3, if_neg q6, if_neg q5]), unhide HB4⟩
end Go.Proofs.YtggllgimlfchhabGreat

/- Record: which messages may be, the program's and the document's answer; CheckMsg. -/
namespace Go.Proofs.YtggllgimlfchhabGreat
open Go.RowKit
set_option maxRecDepth 100000

theorem okM_plain {m : MsgD} (h : OkM m) : OkM (plainM m) := by
  obtain ⟨h1, h2, h3⟩ := h
  unfold plainM
  repeat' split
  all_goals first | exact ⟨h1, okTs_nil, fun x hx => by cases hx⟩ | exact ⟨(fun x hx => by cases hx), h2, fun x hx => by cases hx⟩ | exact ⟨(fun x hx => by cases hx), okTs_nil, h3⟩ | exact ⟨(fun x hx => by cases hx), okTs_nil, fun x hx => by cases hx⟩
theorem cnt0 : isCnt 0 = true := by decide
theorem mays_same (m : MsgD) : refMay m = mayMsg m := by
  obtain ⟨k, f, t, a, b, c, d, y, l, e, p⟩ := m
  by_cases h1 : k = 1
  case pos =>
    subst h1
    rw [Bool.eq_iff_iff]
    simp only [refMay, mayMsg, tailM, plainM, fieldsL, runF, fMay, wout, MsgD.mk.injEq, Bool.and_eq_true, decide_eq_true_eq, if_true, if_false, List.isEmpty_cons, Bool.not_false, true_and, and_true, Int.reduceEq, Int.reduceLE, and_self]
    constructor
    · intro h
      simp_all
    · intro h
      simp_all [cnt0]
  by_cases h2 : k = 2
  case pos =>
    subst h2
    rw [Bool.eq_iff_iff]
    simp only [refMay, mayMsg, tailM, plainM, fieldsL, runF, fMay, wout, MsgD.mk.injEq, Bool.and_eq_true, decide_eq_true_eq, if_true, if_false, List.isEmpty_cons, Bool.not_false, true_and, and_true, Int.reduceEq, Int.reduceLE, and_self]
    constructor
    · intro h
      simp_all
    · intro h
      simp_all [cnt0]
  by_cases h3 : k = 3
  case pos =>
    subst h3
    rw [Bool.eq_iff_iff]
    simp only [refMay, mayMsg, tailM, plainM, fieldsL, runF, fMay, wout, MsgD.mk.injEq, Bool.and_eq_true, decide_eq_true_eq, if_true, if_false, List.isEmpty_cons, Bool.not_false, true_and, Int.reduceEq, Int.reduceLE, and_self]
    constructor
    · intro h
      simp_all
    · intro h
      simp_all
  by_cases h4 : k = 4
  case pos =>
    subst h4
    rw [Bool.eq_iff_iff]
    simp only [refMay, mayMsg, tailM, plainM, fieldsL, runF, fMay, wout, MsgD.mk.injEq, Bool.and_eq_true, decide_eq_true_eq, if_true, if_false, List.isEmpty_cons, Bool.not_false, true_and, and_true, Int.reduceEq, Int.reduceLE, and_self]
    constructor
    · intro h
      simp_all
    · intro h
      simp_all [cnt0]
  by_cases h5 : k = 5
  case pos =>
    subst h5
    rw [Bool.eq_iff_iff]
    simp only [refMay, mayMsg, tailM, plainM, fieldsL, runF, fMay, wout, MsgD.mk.injEq, Bool.and_eq_true, decide_eq_true_eq, if_true, if_false, List.isEmpty_cons, Bool.not_false, true_and, and_true, Int.reduceEq, Int.reduceLE, and_self]
    constructor
    · intro h
      simp_all
    · intro h
      simp_all [cnt0]
  by_cases h6 : k = 6
  case pos =>
    subst h6
    rw [Bool.eq_iff_iff]
    simp only [refMay, mayMsg, tailM, plainM, fieldsL, runF, fMay, wout, MsgD.mk.injEq, Bool.and_eq_true, decide_eq_true_eq, if_true, if_false, List.isEmpty_cons, Bool.not_false, true_and, Int.reduceEq, Int.reduceLE, and_self]
    constructor
    · intro h
      simp_all
    · intro h
      simp_all [cnt0]
  case neg =>
    have e1 : refMay ⟨k, f, t, a, b, c, d, y, l, e, p⟩ = false := by
      unfold refMay
      have : decide (1 ≤ k ∧ k ≤ 6) = false := decide_eq_false (by omega)
      simp only [this, Bool.false_and]
    have e2 : fieldsL k = [] := by simp only [fieldsL, h1, h2, h3, h4, h5, h6, if_false]
    rw [e1]
    simp only [mayMsg, e2, List.isEmpty_nil, Bool.not_true, Bool.false_and]


end Go.Proofs.YtggllgimlfchhabGreat
