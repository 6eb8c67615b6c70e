/- Several texts as one. -/
import Derived.Test.YtiijbklaapaheaaCK
import Derived.Laws.AppendOwnNone

/- Checkpoints: a half is read. -/
namespace Go.Proofs.Ytiijbklaapaheaa
open Go.RowKit Go.Shelf
set_option maxRecDepth 100000
attribute [local go_sem] Oper.semAt_some

/-- append(s, x...) inside a fence, where s is the call's own and x is whatever slice of integers that is seen, nil too. -/
theorem wpListIn_append_sees {F : Fence} {m : Nat} {P : Program} {w : World} {ops : Array Oper} {rest : List Oper} {o : Oper} {a : Act} {Q : Exit → Act → World → Prop} (hgd : o.guard = none) (s x : Operand) (t : TypeId)
    (ho : o.op = .call { callee := .builtin .append, args := #[s, x], argTypes := #[t, t] })
    (base : Nat) (e : TypeId) (i : TypeInfo) (z : Value) (bytes : Nat) (ht : P.underlying t = some (.slice e)) (hi : P.info? e = some i) (hz : i.zero = some z)
    (hsize : i.size = 1) (hby : i.bytes = bytes) (hzs : z.cells.size = 1)
    (v : Value) (n : Nat) (xs : List Value) (hs : a.eval s = v) (hown : w.ownsRow base e 1 v n xs)
    (k : IntKind) (sv : Value) (zs : List Int) (hx : a.eval x = sv) (hsee : Sees w k sv zs)
    (h63 : n + zs.length ≤ maxLen) (hbytes : (n + zs.length) * bytes ≤ 140737488355328) (hbase : base ≤ w.heap.size)
    (h : ∀ v' w', w'.ownsRow base e 1 v' (n + zs.length) (xs ++ ints k zs) → w.grownBy w' v.ownBlock → wpListIn F m P ops Q rest (a.put o.dst v') w') : wpListIn F m P ops Q (o :: rest) a w := by
  obtain ⟨ao, cap, rfl, hl, hnil, hc⟩ := hsee
  cases ao with
  | none =>
    obtain rfl := hnil rfl
    obtain rfl : zs = [] := List.length_eq_zero_iff.1 (by omega)
    refine wpListIn_plain hgd fun K hK' => ?_
    have hrun := run_append_owned_none (P := P) (w := w) base t o.type e i 1 ht hi v n xs hown
    unfold Oper.wpIn
    refine ⟨?_, ?_⟩
    · simp [Oper.about, ho, resolve, Target.leads, Sem.run_pure]
    · rw [Oper.semAt_plain F _ _ (by rw [ho]; intro c hc'; cases hc')]
      simp only [List.length_nil] at hx
      simp [execOp, ho, resolve, invoke, builtin, hs, hx, hrun, Result.andThen]
      exact hK' _ _ (h v w (by simpa [ints] using hown) (grownBy_refl _ _))
  | some ad =>
    refine wpListIn_append_own w hgd s x t ho base e i z 1 bytes ht hi hz hsize hby hzs (by decide) v n xs hs hown ad zs.length cap (ints k zs) hx (by rw [ints_length]; omega) (fun j u hu => ?_) (ints_cell _ _) h63 hbytes hbase ?_
    · obtain ⟨hj, rfl⟩ := ints_get hu
      exact hc ad rfl j hj
    · intro v' w' ho' hg _
      exact h v' w' ho' hg

theorem pages_shows (M : Nat) (hM : 1 ≤ M) (hx g h cap f n : Nat) (F : Fl) (hP : ∀ i j, (F.readB i j).length ≤ 256) (hf : f ≤ 1099511627776) (hn : n ≤ 1048576) (w : World) (H : IsFl w g h cap F) (hc : w.cell? ⟨hx, 0, none⟩ = some (P0 h) ∧ w.cell? ⟨hx, 1, none⟩ = some (.int .i64 f) ∧ w.cell? ⟨hx, 2, none⟩ = some (.int .i64 n)) :
    SeqShows Fence.wide M Try.prog 104 #[.pointer (some ⟨hx, 0, none⟩)] (fun x : Value × List Int => #[x.1]) (fun x W => Sees W .u8 x.1 x.2 ∧ x.2.length ≤ 256) (K3 hx g h) (fun xs => xs.map Prod.snd = pgs F f 0 (n * 16)) (n * 16) w := fun l J W hW hJ hY h0 => by
  have hl := World.block_lt_of_cell? w _ hc.1
  exact pages1_in l hx g h cap f n M hM F hP hf hn J (fun s A C hs hb => abides_below hJ hs hb) hY W (H.below hW) ⟨(hW.cell (p := ⟨hx, 0, none⟩) hl).trans hc.1, (hW.cell (p := ⟨hx, 1, none⟩) hl).trans hc.2.1, (hW.cell (p := ⟨hx, 2, none⟩) hl).trans hc.2.2⟩ h0

set_option maxHeartbeats 400000 in
theorem pages_fn {w : World} (h : Nat) (f n : Int) :
    Calls Try.prog 93 #[halfV h f n] w fun e w' => e = .returned (.func (.func 104) #[] #[.pointer (some ⟨w.heap.size, 0, none⟩)]) ∧ w' = w.alloc (.cells #[P0 h, .int .i64 f, .int .i64 n] 78) := by
  go_enter Try.func93, Try.ntmps93
  go_wp2
  go_ret
  exact ⟨rfl, rfl⟩

/-- What a half holds, read on. -/
def rdL (F : Fl) (f n : Nat) : List Int := (pgs F f 0 (n * 16)).flatten

end Go.Proofs.Ytiijbklaapaheaa

/- Checkpoints: a half is read: the walk. -/
namespace Go.Proofs.Ytiijbklaapaheaa
open Go.RowKit Go.Shelf
set_option maxRecDepth 100000
attribute [local go_sem] Oper.semAt_some

/-- Where the reader stands behind some pages: what it has lies in a row of its own. -/
def RI (ab : Nat) (w w2 : World) (pre : List (Value × List Int)) (W : World) : Prop :=
  (∃ v, W.cell? ⟨ab, 0, none⟩ = some v ∧ W.ownsRow w2.heap.size 5 1 v (pre.map Prod.snd).flatten.length (ints .u8 (pre.map Prod.snd).flatten)) ∧ W.frozen? ⟨ab, 0, none⟩ = false ∧ (pre.map Prod.snd).flatten.length ≤ pre.length * 256 ∧ Below w.heap.size w W ∧ w2.heap.size ≤ W.heap.size

theorem RI.own {ab : Nat} {w w2 : World} (hab : ab < w2.heap.size) (hw : w.heap.size ≤ w2.heap.size) : OwnFrom w2.heap.size (RI ab w w2) := by
  rintro s A B row ⟨⟨v, k1, k2⟩, k3, k4, k5, k6⟩ hgr hro
  have hb : Below w2.heap.size A B := grown_below k6 hgr fun r e => (hro r e).1
  refine ⟨⟨v, (hb.cell (p := ⟨ab, 0, none⟩) hab).trans k1, k2.kept hgr ?_⟩, ?_, k4, k5.trans (hb.mono hw), Nat.le_trans k6 hgr.size⟩
  · by_cases c : v.ownBlock = row
    · left
      cases hv : v.ownBlock with
      | none => rfl
      | some r =>
        obtain ⟨_, o, ho, hoc⟩ := hro r (c.symm.trans hv)
        rcases k2.2 with ⟨rfl, _⟩ | ⟨g, cap, cur, rfl, _, hh, _⟩
        · simp [Value.ownBlock] at hv
        · simp [Value.ownBlock] at hv
          subst hv
          rw [hh] at ho
          injection ho with ho
          subst ho
          simp [Obj.isCells] at hoc
    · exact .inr c
  · rw [World.frozen?_of_block (w := A) (hb.block ab hab)]; exact k3

set_option maxHeartbeats 4000000 in
theorem read_any {w : World} {g h cap : Nat} {F : Fl} (H : IsFl w g h cap F) (hP : ∀ i j, (F.readB i j).length ≤ 256) (f n : Nat) (hf : f ≤ 1099511627776) (hn : n ≤ 1048576) :
    Calls Try.prog 74 #[halfV h f n] w fun e w' => ∃ v, e = .returned v ∧ w'.ownsRow w.heap.size 5 1 v (rdL F f n).length (ints .u8 (rdL F f n)) ∧ Below w.heap.size w w' := by
  obtain ⟨i0, hi, hz0, hz1, hz2⟩ := info_parts Try.info5
  obtain ⟨B, hB⟩ : ∃ B, (w.alloc (.cells #[P0 h, .int .i64 f, .int .i64 n] 78)).alloc (.cells #[.slice none 0 0] 22) = B := ⟨_, rfl⟩
  have HAL : Hid (Below w.heap.size w B) := hB ▸ ((Below.refl _ _).alloc (Nat.le_refl _) _).alloc (by simp) _
  have HSZ : Hid (B.heap.size = w.heap.size + 2) := by rw [← hB]; simp [hide]
  have hg := H.glt; have hh := H.hlt
  have HBB : Hid (B.cell? ⟨w.heap.size, 0, none⟩ = some (P0 h) ∧ B.cell? ⟨w.heap.size, 1, none⟩ = some (.int .i64 f) ∧ B.cell? ⟨w.heap.size, 2, none⟩ = some (.int .i64 n) ∧ B.cell? ⟨w.heap.size + 1, 0, none⟩ = some (.slice none 0 0) ∧ B.frozen? ⟨w.heap.size + 1, 0, none⟩ = false) := by
    rw [← hB]
    refine ⟨?_, ?_, ?_, ?_, ?_⟩ <;> simp [go_sem, World.cell?_alloc_old]
  have HI := hide (H.below (unhide HAL))
  refine (callsIn_wide (n := 3)).1 ?_
  refine callsIn_of_wp_marks Try.func74 rfl trivial ?_ rfl
  simp only [Try.ntmps74, List.size_toArray, List.length_cons, List.length_nil, Nat.reduceAdd, Nat.reduceSub, Array.replicate_succ, Array.replicate_zero, List.push_toArray, List.append_toArray, List.nil_append, List.cons_append]
  obtain ⟨q0, q1, q2, q3, q4⟩ := unhide HBB
  clear H
  gi_wp2_with (rw [hB])
  refine ⟨trivial, ((callsIn_wide (n := 2)).2 (pages_fn h f n)).mono ?_⟩
  rintro e w2 ⟨rfl, hw2⟩
  have HW2 : Hid (Below B.heap.size B w2) := by rw [hw2]; exact (Below.refl _ _).alloc (Nat.le_refl _) _
  have HS2 : Hid (w2.heap.size = B.heap.size + 1) := by rw [hw2]; simp [hide]
  have HC2 : Hid (w2.cell? ⟨B.heap.size, 0, none⟩ = some (P0 h) ∧ w2.cell? ⟨B.heap.size, 1, none⟩ = some (.int .i64 f) ∧ w2.cell? ⟨B.heap.size, 2, none⟩ = some (.int .i64 n)) := by
    rw [hw2]
    refine ⟨?_, ?_, ?_⟩ <;> simp [go_sem]
  have HA2 : Hid (w2.cell? ⟨w.heap.size + 1, 0, none⟩ = some (.slice none 0 0) ∧ w2.frozen? ⟨w.heap.size + 1, 0, none⟩ = false) := by
    have hs := unhide HSZ
    refine ⟨((unhide HW2).cell (p := ⟨w.heap.size + 1, 0, none⟩) (by show w.heap.size + 1 < _; omega)).trans q3, ?_⟩
    rw [World.frozen?_of_block (w := B) ((unhide HW2).block (w.heap.size + 1) (by omega))]; exact q4
  clear hw2 q0 q1 q2 q3 q4
  have HI2 := hide ((unhide HI).below (unhide HW2))
  have HFB : Hid (Below w.heap.size w w2) := (unhide HAL).trans ((unhide HW2).mono (unhide HAL).size)
  gi_wp2
  have hsB := unhide HSZ
  have hs2 := unhide HS2
  refine wpIn_range_shows rfl (by decide) (gf := 104) (lb := #[.pointer (some ⟨B.heap.size, 0, none⟩)]) rfl trivial (enters_of Try.func104 (by kernel_rfl) rfl)
    (pages_shows 2 (by decide) B.heap.size g h cap f n F hP hf hn w2 (unhide HI2) (unhide HC2)) K3.trans
    (fun W l o o' hl ho _ => by
      have key : ∀ k, k ≠ l → (W.putObj l o').heap[k]? = W.heap[k]? := fun k hk => by simp [World.putObj, Ne.symm hk]
      exact ⟨key _ (by omega), key _ (by omega), key _ (by omega)⟩)
    (Below.refl _ _) (fun _ => rfl)
    (fun x W l o o' hs hl ho hoc => ⟨hs.1.keep (fun p v hp => (World.cell?_of_block (w := W) (a := p) (by
      have hne : p.block ≠ l := by
        rintro rfl
        obtain ⟨o2, ho2, hc2⟩ := cells_of_cell hp
        rw [ho] at ho2
        injection ho2 with ho2
        subst ho2
        rw [hoc] at hc2
        cases hc2
      simp [World.putObj, Ne.symm hne])).trans hp), hs.2⟩)
    (RI (w.heap.size + 1) w w2) (RI.own (by omega) (by omega))
    ⟨⟨_, (unhide HA2).1, World.ownsRow_nil _ _ _ _⟩, (unhide HA2).2, Nat.zero_le _, unhide HFB, Nat.le_refl _⟩
    (fun x => { tmps := #[halfV h f n, .pointer (some ⟨w.heap.size, 0, none⟩), .slice none 0 0, .pointer (some ⟨w.heap.size + 1, 0, none⟩), x.1, .agg #[P0 h, .int .i64 f, .int .i64 n], .func (.func 104) #[] #[.pointer (some ⟨B.heap.size, 0, none⟩)], x.1, undef, undef, undef, undef], defers := [] }) ?assign ?body ?done
  case assign =>
    intro l x W K hK
    clear hsB hs2
    gi_wp2
    simpa using hK
  case body =>
    rintro l pre ⟨xv, xs⟩ W ⟨⟨v, k1, k2⟩, k3, k4, k5, k6⟩ ⟨hsx, hxl⟩ hlen
    simp only at hsx hxl
    have HSS := hide (And.intro hsB hs2)
    obtain ⟨Z, hZ⟩ : ∃ Z, (pre.map Prod.snd).flatten = Z := ⟨_, rfl⟩
    rw [hZ] at k2 k4
    have HZ := hide hZ
    have HK2 := hide k2
    have HK := hide (And.intro k1 (And.intro k3 (And.intro k5 k6)))
    have hk4 := hide k4
    clear hsB hs2 hZ
    gi_wp2_with (gi_at_builtin; refine wpListIn_append_sees rfl _ _ 22 rfl w2.heap.size 5 i0 (.int .u8 0) 1 Try.underlying22 hi hz0 hz1 hz2 rfl _ _ _ rfl k2 .u8 _ xs rfl hsx ?e1 ?e2 ?e3 ?_)
    case e1 => unfold maxLen; omega
    case e2 => omega
    case e3 => exact k6
    intro v' W1 hown' hgrow
    have hb1 : Below w2.heap.size W W1 := grown_below k6 hgrow (own_block_le k2)
    have HB1 := hide hb1
    have HKO : Hid (KeepsOthers W W1) := by
      refine ⟨hgrow.size, fun k o ho hoc => ?_⟩
      rw [hgrow.block k (Array.getElem?_eq_some_iff.1 ho).1 ?_]
      · exact ho
      · intro c
        rcases k2.2 with ⟨rfl, _⟩ | ⟨g', cap', cur, rfl, _, hh', _⟩
        · simp [Value.ownBlock] at c
        · simp [Value.ownBlock] at c
          subst c
          rw [hh'] at ho
          injection ho with ho
          subst ho
          simp [Obj.isCells] at hoc
    obtain ⟨a', c', rfl⟩ := own_shape hown'
    have HO1 := hide hown'
    have c1 : W1.cell? ⟨w.heap.size + 1, 0, none⟩ = some v := by
      have := unhide HSS
      exact (hb1.cell (p := ⟨w.heap.size + 1, 0, none⟩) (by show w.heap.size + 1 < _; omega)).trans k1
    have c2 : W1.frozen? ⟨w.heap.size + 1, 0, none⟩ = false := by
      have := unhide HSS
      rw [World.frozen?_of_block (w := W) (hb1.block (w.heap.size + 1) (by omega))]; exact k3
    clear hown' hgrow hb1 k1 k2 k3 k4 k5 k6
    gi_wp2
    obtain ⟨s1, s2⟩ := unhide HSS
    have hb1 := unhide HB1
    obtain ⟨k1, k3, k5, k6⟩ := unhide HK
    have hk4' := unhide hk4
    have hfl : ((pre ++ [(xv, xs)]).map Prod.snd).flatten = Z ++ xs := by rw [List.map_append, List.flatten_append, unhide HZ]; simp
    refine ⟨(unhide HKO).trans (KeepsOthers.setCell _ _ _), ⟨(Below.heap_setCell _ _ _ _ (by show B.heap.size ≠ w.heap.size + 1; omega)).trans (hb1.block _ (by omega)), (Below.heap_setCell _ _ _ _ (by show g ≠ w.heap.size + 1; omega)).trans (hb1.block _ (by omega)), (Below.heap_setCell _ _ _ _ (by show h ≠ w.heap.size + 1; omega)).trans (hb1.block _ (by omega))⟩, ⟨_, cs_same c1, ?_⟩, ?_, ?_, ?_, ?_⟩
    · rw [hfl, ints_append, List.length_append]
      exact own_set (unhide HO1) (p := ⟨w.heap.size + 1, 0, none⟩) (by show w.heap.size + 1 < _; omega) _
    · rw [World.frozen?_setCell]; exact c2
    · rw [hfl, List.length_append, List.length_append]; simp only [List.length_singleton]; omega
    · exact (k5.trans (hb1.mono (by omega))).setCell (p := ⟨w.heap.size + 1, 0, none⟩) (Nat.le_succ _) _
    · show _ ≤ (W1.setCell _ _).heap.size
      simp only [World.setCell, Array.size_modify]
      exact Nat.le_trans k6 hb1.size
  case done =>
    rintro D ys W hD hS ⟨⟨v, k1, k2⟩, k3, k4, k5, k6⟩ hK
    have HSS := hide (And.intro hsB hs2)
    have HO : Hid (W.ownsRow w2.heap.size 5 1 v (rdL F f n).length (ints .u8 (rdL F f n))) := by unfold rdL; rw [← hS]; exact k2
    have HK := hide (And.intro k5 k6)
    clear hsB hs2 k2 k3 k4 k5 k6 hS
    gi_wp2
    obtain ⟨s1, s2⟩ := unhide HSS
    obtain ⟨k5, k6⟩ := unhide HK
    refine ⟨by simp, .inl ⟨_, _, rfl, run_takeDeferred hK, ?_⟩⟩
    have hbF := belowK_b (w := w2) (Nat.le_refl _) W D _ (.deferred none) hD hK rfl rfl
    refine ⟨v, by simp [results, Try.results74, go_sem], v, rfl, ?_, k5.trans (hbF.mono (by omega))⟩
    refine own_lower ((unhide HO).kept (grownBy_putObj' W D _) ?_) (by omega)
    rcases (unhide HO).2 with ⟨rfl, _⟩ | ⟨g', cap', cur, rfl, _, hh', _⟩
    · left; rfl
    · right
      simp only [Value.ownBlock]
      intro c
      injection c with c
      subst c
      rw [hh'] at hK
      cases hK
end Go.Proofs.Ytiijbklaapaheaa

/- Checkpoints: the newest of two halves: in pure terms. -/
namespace Go.Proofs.Ytiijbklaapaheaa
open Go.RowKit Go.Shelf
set_option maxRecDepth 100000

theorem readB_byt (F : Fl) (i j : Int) : Byt (F.readB i j) := by
  unfold Fl.readB
  split
  · exact bytesOf_byt _
  · intro b hb; cases hb
theorem pgs_byt (F : Fl) (f k : Nat) : ∀ i, ∀ l ∈ pgs F f i k, Byt l := by
  induction k with
  | zero => intro i l hl; cases hl
  | succ k ih =>
    intro i l hl
    rw [pgs_succ] at hl
    split at hl
    · cases hl
    · rcases List.mem_cons.1 hl with rfl | hl
      · exact readB_byt F _ _
      · exact ih _ _ hl
theorem pgs_len (F : Fl) (hP : ∀ i j, (F.readB i j).length ≤ 256) (f k : Nat) : ∀ i, (pgs F f i k).flatten.length ≤ k * 256 := by
  induction k with
  | zero => intro i; simp [pgs]
  | succ k ih =>
    intro i
    rw [pgs_succ]
    split
    · simp
    · have h1 := hP ((f + i / 16 : Nat) : Int) ((i % 16 : Nat) : Int)
      have h2 := ih (i + 1)
      rw [List.flatten_cons, List.length_append]; omega
theorem rdL_byt (F : Fl) (f n : Nat) : Byt (rdL F f n) := by
  intro b hb
  obtain ⟨l, hl, hbl⟩ := List.mem_flatten.1 hb
  exact pgs_byt F f _ 0 l hl b hbl
theorem rdL_len (F : Fl) (hP : ∀ i j, (F.readB i j).length ≤ 256) (f n : Nat) : (rdL F f n).length ≤ n * 4096 := by
  have := pgs_len F hP f (n * 16) 0
  unfold rdL; omega

/-- The best so far: which half, what it says. -/
structure Bst where
  at' : Int
  ck : Ck
def Bst.none : Bst := ⟨0, ⟨0, 0, 0, [], 0⟩⟩
def Bst.step (b : Bst) (i : Int) (c : Ck) : Bst := if c.err = 0 ∧ b.ck.num < c.num then ⟨i, c⟩ else b
/-- What the first k of two halves of m blocks each hold at best. -/
def nwk (F : Fl) (f m : Nat) : Nat → Bst
  | 0 => .none
  | k + 1 => (nwk F f m k).step k (dec (rdL F (f + k * m) m))

theorem decode_half {w : World} {v : Value} {F : Fl} {f n : Nat} (hP : ∀ i j, (F.readB i j).length ≤ 256) (hn : n ≤ 1048576) {base : Nat} (h : w.ownsRow base 5 1 v (rdL F f n).length (ints .u8 (rdL F f n))) :
    Calls Try.prog 10 #[v] w fun e w' => DecR w w' (dec (rdL F f n)) e :=
  decode_any v _ w (sees_of_own h).2 (rdL_byt F f n) (by have := rdL_len F hP f n; omega)

end Go.Proofs.Ytiijbklaapaheaa
