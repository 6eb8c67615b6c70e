/- Several texts as one. -/
import Derived.Test.YtiijbklaapaheaaWA
import Derived.Test.YtiijbklaapaheaaKJ
import Derived.Test.YtiijbklaapaheaaWC
import Derived.Test.YtiijbklaapaheaaR0
import Derived.Test.YtiijbklaapaheaaR1

/- The reader's numbers, one behind the other. -/
namespace Go.Proofs.Ytiijbklaapaheaa
open Go.RowKit
set_option maxRecDepth 100000

theorem Try.info2 : (Try.prog.info? 2).map (fun i => (i.zero, i.size, i.bytes)) = some (some (.int .i64 0), 1, 8) := by kernel_rfl

/-- The first j numbers of bytes, how many bytes they have, and what is wrong with them. -/
def nrun (l : List Int) : Nat → List Int × Nat × Int
  | 0 => ([], 0, 0)
  | j + 1 =>
    if (nrun l j).2.2 ≠ 0 then nrun l j
    else if (tn (l.drop (nrun l j).2.1)).2.2 ≠ 0 then ([], 0, (tn (l.drop (nrun l j).2.1)).2.2)
    else ((nrun l j).1 ++ [(tn (l.drop (nrun l j).2.1)).1], (nrun l j).2.1 + (tn (l.drop (nrun l j).2.1)).2.1, 0)

theorem nrun_le (l : List Int) (j : Nat) : (nrun l j).2.1 ≤ l.length ∧ ((nrun l j).2.2 = 0 → (nrun l j).1.length = j ∧ j ≤ (nrun l j).2.1) ∧ ((nrun l j).2.2 ≠ 0 → (nrun l j).1 = [] ∧ (nrun l j).2.1 = 0) := by
  induction j with
  | zero => simp [nrun]
  | succ j ih =>
    obtain ⟨h1, h2, h3⟩ := ih
    simp only [nrun]
    by_cases c1 : (nrun l j).2.2 ≠ 0
    · rw [if_pos c1]; exact ⟨h1, fun h => absurd h c1, h3⟩
    · rw [if_neg c1]
      have c1' : (nrun l j).2.2 = 0 := by simpa using c1
      have h2' := h2 c1'
      by_cases c2 : (tn (l.drop (nrun l j).2.1)).2.2 ≠ 0
      · rw [if_pos c2]; exact ⟨Nat.zero_le _, fun h => absurd h c2, fun _ => ⟨rfl, rfl⟩⟩
      · rw [if_neg c2]
        have := tn_le (l.drop (nrun l j).2.1) (by simpa using c2)
        rw [List.length_drop] at this
        refine ⟨by simp only; omega, fun _ => ⟨by simp [h2'.1], by simp only; omega⟩, fun h => absurd rfl h⟩

/-- An error stays. -/
theorem nrun_stuck (l : List Int) (j : Nat) (h : (nrun l j).2.2 ≠ 0) (n : Nat) (hn : j ≤ n) : nrun l n = nrun l j := by
  induction n with
  | zero => obtain rfl : j = 0 := by omega
            rfl
  | succ n ih =>
    by_cases e : j = n + 1
    · subst e; rfl
    · have := ih (by omega)
      simp only [nrun]
      rw [this, if_pos h]

/-- The reader's numbers. -/
def ReadsN (R : Nat) (v : Value) (p base : Nat) (w : World) (t : List Int × Nat × Int) (e : Ending) (w' : World) : Prop :=
  Below R w w' ∧ (t.2.2 = 0 → ∃ x, e = .returned x ∧ AtR w' R v (p + t.2.1) ∧ w'.ownsRow base 2 1 x t.1.length (ints .i64 t.1)) ∧ (t.2.2 ≠ 0 → e = GiveUp t.2.2)

theorem own_only {R : Nat} {w w' : World} {base e size : Nat} {v : Value} {n : Nat} {xs : List Value} (h : w.ownsRow base e size v n xs) (ho : OnlyR R w w') (hR : R < base) : w'.ownsRow base e size v n xs := by
  refine ⟨h.1, ?_⟩
  rcases h.2 with hn | ⟨g, cap, cur, hv, hg, hh, r⟩
  · exact .inl hn
  · exact .inr ⟨g, cap, cur, hv, hg, (ho.2 g (by omega)).trans hh, r⟩

set_option maxHeartbeats 1000000 in
theorem numbersR_any (R : Nat) (v : Value) (zs : List Int) (p : Nat) (n : Int) (w : World) (hat : AtR w R v p) (hs : SeesB R w .u8 v zs) (hby : Byt zs) (hm : zs.length ≤ 1099511627776) (hp : p ≤ zs.length) (hn1 : n ≤ 9223372036854775807) :
    Calls Try.prog 68 #[.pointer (some ⟨R, 0, none⟩), .int .i64 n] w fun e w' => ReadsN R v p w.heap.size w (nrun (zs.drop p) n.toNat) e w' := by
  obtain ⟨i0, hi, hz0, hz1, hz2⟩ := info_parts Try.info2
  have hR := lt_of_block hat
  have HA := hide hat
  have HS := hide hs
  clear hat hs
  go_enter Try.func68, Try.ntmps68
  go_wp2
  go_loopw [5, 7] (fun vl vi wr => ∃ j : Nat, j ≤ n.toNat ∧ vi = .int .i64 j ∧ (nrun (zs.drop p) j).2.2 = 0 ∧ wr.ownsRow w.heap.size 2 1 vl j (ints .i64 (nrun (zs.drop p) j).1) ∧ AtR wr R v (p + (nrun (zs.drop p) j).2.1) ∧ Below R w wr)
    (fun _ vi _ => n.toNat - (intOf vi).toNat)
  case atStart => exact ⟨0, Nat.zero_le _, rfl, rfl, World.ownsRow_nil _ _ _ _, HA.out, Below.refl _ _⟩
  case round =>
    obtain ⟨j, hj, rfl, hz, hownr, hatr, hnx⟩ := hrel
    have hsz := hnx.size
    have hle := nrun_le (zs.drop p) j
    rw [List.length_drop] at hle
    by_cases hlt : (j : Int) < n
    · have hsr := HS.out.below hnx (Nat.le_refl _)
      have hnum := number_any R v zs _ wr hatr hsr hby (by omega) (by omega)
      have hdd : zs.drop (p + (nrun (zs.drop p) j).2.1) = (zs.drop p).drop (nrun (zs.drop p) j).2.1 := List.drop_drop.symm
      rw [hdd] at hnum
      have hstep : nrun (zs.drop p) (j + 1) = if (tn ((zs.drop p).drop (nrun (zs.drop p) j).2.1)).2.2 ≠ 0 then ([], 0, (tn ((zs.drop p).drop (nrun (zs.drop p) j).2.1)).2.2) else ((nrun (zs.drop p) j).1 ++ [(tn ((zs.drop p).drop (nrun (zs.drop p) j).2.1)).1], (nrun (zs.drop p) j).2.1 + (tn ((zs.drop p).drop (nrun (zs.drop p) j).2.1)).2.1, 0) := by
        simp only [nrun]; rw [if_neg (by simpa using hz)]
      by_cases her : (tn ((zs.drop p).drop (nrun (zs.drop p) j).2.1)).2.2 = 0
      · rw [if_neg (by simpa using her)] at hstep
        have HN := hide (hnum.mono fun e w' h => And.intro h.1 (h.2.1 her))
        have HST := hide hstep
        have HLE := hide hle
        have hjm : j ≤ zs.length := by have := (hle.2.1 hz).2; omega
        have HZ := hide hz
        clear hnum hstep hdd hle her hz hsr
        generalize (tn ((zs.drop p).drop (nrun (zs.drop p) j).2.1)).1 = x at *
        go_wp2_with (first
          | (go_at_call 88; refine (unhide HN).mono ?_; rintro e w1 ⟨hb1, rfl, hat1, hon1⟩; have ho1 := own_only hownr hon1 hR)
          | (at_builtin; refine wpList_append_own _ rfl _ _ 70 rfl w.heap.size 2 i0 (.int .i64 0) 1 8 Try.underlying70 hi hz0 hz1 hz2 rfl (by decide) _ _ _ rfl (ho1.alloc _) ⟨w1.heap.size, 0, none⟩ 1 1 [.int .i64 x] rfl rfl ?c1 ?c2 ?c3 ?c4 ?c5 ?_))
        case c1 => exact cell_one_new _ _ _
        case c2 => intro y hy; simp at hy; subst hy; rfl
        case c3 => unfold maxLen; omega
        case c4 => omega
        case c5 => have := hb1.size; simp; omega
        intro v' w2 hown' hgrow _
        have hsz1 := hb1.size
        have hbe : Below R w w2 := ((hnx.trans hb1).alloc (by omega) _).grown hgrow (by simp; omega) (fun k hk => by have := own_block_le ho1 k hk; omega)
        have hat2 : AtR w2 R v (p + (nrun (zs.drop p) (j + 1)).2.1) := by
          rw [HST.out, ← Nat.add_assoc]
          have hRw : some R ≠ Value.ownBlock _ := fun e => by have := own_block_le ho1 R e.symm; omega
          exact ((hgrow.block R (by simp; omega) hRw).trans (Below.heap_alloc _ _ _ (by omega))).trans hat1
        have ho2 : w2.ownsRow w.heap.size 2 1 v' (j + 1) (ints .i64 (nrun (zs.drop p) (j + 1)).1) := by
          rw [HST.out]; simp only [ints_append, ints_one]; exact hown'
        have hz2' : (nrun (zs.drop p) (j + 1)).2.2 = 0 := by rw [HST.out]
        have HZ2 := hide hz2'
        clear hown' hgrow ho1 hownr hat1 hon1 hatr hnx hz2'
        go_wp2
        go_roundw
        case rel => exact ⟨j + 1, by omega, by go_num, HZ2.out, ho2, hat2, hbe⟩
        case measure => simp [intOf]; omega
      · have her' : (tn ((zs.drop p).drop (nrun (zs.drop p) j).2.1)).2.2 ≠ 0 := her
        rw [if_pos her'] at hstep
        have hfin : nrun (zs.drop p) n.toNat = ([], 0, (tn ((zs.drop p).drop (nrun (zs.drop p) j).2.1)).2.2) := by
          rw [nrun_stuck _ (j + 1) (by rw [hstep]; exact her') _ (by omega), hstep]
        have HN := hide (hnum.mono fun e w' h => And.intro h.1 (h.2.2 her'))
        have HF := hide hfin
        have HE := hide her'
        clear hnum hstep hdd hle her her' hz hsr hfin
        generalize (tn ((zs.drop p).drop (nrun (zs.drop p) j).2.1)).2.2 = er at *
        go_wp2_with fail
        refine (unhide HN).mono ?_
        rintro e w1 ⟨hb1, rfl⟩
        refine ⟨rfl, ?_⟩
        rw [HF.out]
        exact ⟨hnx.trans hb1, fun h => absurd h HE.out, fun _ => rfl⟩
    · have hjn : j = n.toNat := by omega
      subst hjn
      have HZ := hide hz
      have HL := hide (hle.2.1 hz).1
      clear hz hle
      go_wp2
      go_ret
      exact ⟨hnx, fun _ => ⟨_, rfl, hatr, by rw [HL.out]; exact hownr⟩, fun h => absurd HZ.out h⟩

end Go.Proofs.Ytiijbklaapaheaa

/- Contracts of Nums and of slices.Equal. -/
namespace Go.Proofs.Ytiijbklaapaheaa
open Go.RowKit
set_option maxRecDepth 100000

theorem Sees.drop {w : World} {k : IntKind} {ao : Option Addr} {cap : Nat} {zs : List Int} (h : Sees w k (.slice ao zs.length cap) zs) (p : Nat) (hp : p ≤ zs.length) :
    Sees w k (.slice (if cap = p then ao else ao.map (·.add p)) (zs.length - p) (cap - p)) (zs.drop p) := by
  have := (h.upto.cut p (zs.length - p) (by omega)).sees
  rwa [List.take_of_length_le (by rw [List.length_drop]; omega)] at this

set_option maxHeartbeats 400000 in
theorem numsClosure (R : Nat) (c : Addr) (n : Int) (t : List Int × Nat × Int) (v : Value) (base : Nat) (w : World) (hc : w.cell? c = some (.int .i64 n))
    (hn : Calls Try.prog 68 #[.pointer (some ⟨R, 0, none⟩), .int .i64 n] w fun e w' => ReadsN R v 0 base w t e w') :
    Calls Try.prog 67 #[.pointer (some ⟨R, 0, none⟩), .pointer (some c)] w fun e w' => ReadsN R v 0 base w t e w' := by
  by_cases he : t.2.2 = 0
  · have HN := hide (hn.mono fun e w' (h : ReadsN R v 0 base w t e w') => And.intro h.1 (h.2.1 he))
    clear hn
    go_enter Try.func67, Try.ntmps67
    go_wp2_with (go_at_call 68; refine (unhide HN).mono ?_; rintro e w1 ⟨hb, x, rfl, h2, h3⟩)
    go_ret
    exact ⟨hb, fun _ => ⟨x, rfl, h2, h3⟩, fun h => absurd he h⟩
  · have HN := hide (hn.mono fun e w' (h : ReadsN R v 0 base w t e w') => And.intro h.1 (h.2.2 he))
    clear hn
    go_enter Try.func67, Try.ntmps67
    go_wp2_with fail
    refine (unhide HN).mono ?_
    rintro e w1 ⟨hb, rfl⟩
    exact ⟨rfl, hb, fun h => absurd h he, fun _ => rfl⟩

/-- take of the numbers' closure. -/
theorem take39_any (c : Addr) (ao : Option Addr) (cap : Nat) (zs : List Int) (n : Int) (w : World) (hs : Sees w .u8 (.slice ao zs.length cap) zs) (hby : Byt zs) (hm : zs.length ≤ 1099511627776) (hn1 : n ≤ 9223372036854775807)
    (hc : w.cell? c = some (.int .i64 n)) :
    Calls Try.prog 66 #[.slice ao zs.length cap, .func (Fn.func 67) #[] #[.pointer (some c)]] w fun e w' => ∃ x, e = .returned (.tuple #[x, .int .i64 (nrun zs n.toNat).2.1, .int .i64 (nrun zs n.toNat).2.2]) ∧ Below w.heap.size w w' ∧ w'.ownsRow w.heap.size 2 1 x (nrun zs n.toNat).1.length (ints .i64 (nrun zs n.toNat).1) := by
  have hst := tw_sees hs
  have hnum := numbersR_any (w.heap.size + 1) _ zs 0 n (tw w (.slice ao zs.length cap)) (tw_at w _) hst hby hm (Nat.zero_le _) hn1
  rw [List.drop_zero, tw_size] at hnum
  have hcc := numsClosure (w.heap.size + 1) c n _ _ _ _ (((tw_below w (.slice ao zs.length cap)).cell (World.block_lt_of_cell? w c hc)).trans hc) hnum
  have hle := nrun_le zs n.toNat
  generalize nrun zs n.toNat = t at *
  by_cases he : t.2.2 = 0
  · refine (take39_40_ok c ao zs.length cap t.2.1 w (fun x w' => w'.ownsRow (w.heap.size + 2) 2 1 x t.1.length (ints .i64 t.1)) (fun _ _ _ h => h) (fun _ _ _ h => ownsRow_setCell_below h (by show w.heap.size < _; omega) _) (fun _ _ _ h => h.alloc _) (hcc.mono ?_)).mono ?_
    · rintro e w' ⟨h1, h2, _⟩
      obtain ⟨x, h3, h4, h5⟩ := h2 he
      rw [Nat.zero_add] at h4
      exact ⟨x, h3, h4, h1, h5⟩
    · rintro e w' ⟨x, rfl, hb, ho⟩
      exact ⟨x, by rw [he], hb, own_mono ho (by omega)⟩
  · refine (take39_40_no c ao zs.length cap t.2.2 w (hcc.mono ?_)).mono ?_
    · rintro e w' ⟨h1, _, h3⟩
      exact ⟨h3 he, h1⟩
    · rintro e w' ⟨rfl, hb⟩
      obtain ⟨e1, e2⟩ := hle.2.2 he
      rw [e1, e2]
      exact ⟨_, rfl, hb, World.ownsRow_nil _ _ _ _⟩

set_option maxHeartbeats 800000 in
/-- Nums. -/
theorem nums_any (bv : Value) (zs : List Int) (n : Int) (w : World) (hs : Sees w .u8 bv zs) (hby : Byt zs) (hm : zs.length ≤ 1099511627776) (hn1 : n ≤ 9223372036854775807) :
    Calls Try.prog 35 #[bv, .int .i64 n] w fun e w' => ∃ x y, e = .returned (.tuple #[x, y, .int .i64 (nrun zs n.toNat).2.2]) ∧ Sees w' .i64 x (nrun zs n.toNat).1 ∧ Sees w' .u8 y (zs.drop (nrun zs n.toNat).2.1) ∧ Below w.heap.size w w' := by
  obtain ⟨ao, cap, rfl, hlc, hnil, hc⟩ := hs
  have hs : Sees w .u8 (.slice ao zs.length cap) zs := ⟨ao, cap, rfl, hlc, hnil, hc⟩
  have hb0 : Below w.heap.size w (w.alloc (.cells #[.int .i64 n] 3)) := (Below.refl _ _).alloc (Nat.le_refl _) _
  have HT := hide (take39_any ⟨w.heap.size, 0, none⟩ ao cap zs n (w.alloc (.cells #[.int .i64 n] 3)) (hs.below hb0) hby hm hn1 (cell_of_one (heap_alloc_new w _)))
  have hmf : ∀ (fn : Fn) (first cap : Array Value) (w : World), (Instr.makeFunc fn first cap).run Try.prog w = .ok (.func fn first cap) w := fun _ _ _ _ => rfl
  have hkl := (nrun_le zs n.toNat).1
  clear hc hnil
  generalize nrun zs n.toNat = t at *
  obtain ⟨l, k, er⟩ := t
  dsimp only at hkl
  have hrest := fun w' (h : Below w.heap.size w w') => (hs.below h).drop k hkl
  have HR := hide hrest
  clear hrest hs
  by_cases hck : cap = k
  · subst hck
    have hnil : zs.drop cap = [] := List.drop_of_length_le (by omega)
    rw [hnil]
    clear HR
    go_enter Try.func35, Try.ntmps35
    go_wp2_with (go_at_call 66; refine (unhide HT).mono ?_; rintro e w1 ⟨x, rfl, hb1, ho1⟩)
    have hs0 : Sees w1 .u8 (.slice ao 0 0) [] := ⟨ao, 0, rfl, Nat.le_refl _, fun _ => rfl, fun a _ t ht => by simp at ht⟩
    refine (copied_int (.slice ao 0 0) [] 0 w1 hs0 (by omega) (by simp)).mono ?_
    rintro e w2 ⟨y, rfl, hy, hb2⟩
    simp only [World.size_alloc] at hb1 ho1
    have hbw1 : Below w.heap.size w w1 := hb0.trans (hb1.mono (by omega))
    have hxs := (sees_of_own ho1).2.below hb2
    go_wp2
    go_ret3
    exact ⟨x, y, rfl, hxs, (sees_of_own hy).2, hbw1.trans (hb2.mono hbw1.size)⟩
  · rw [if_neg hck] at HR
    go_enter Try.func35, Try.ntmps35
    go_wp2_with (go_at_call 66; refine (unhide HT).mono ?_; rintro e w1 ⟨x, rfl, hb1, ho1⟩)
    simp only [World.size_alloc] at hb1 ho1
    have hbw1 : Below w.heap.size w w1 := hb0.trans (hb1.mono (by omega))
    refine (copied_int _ (zs.drop k) 0 w1 (unhide HR w1 hbw1) (by omega) (by rw [List.length_drop]; omega)).mono ?_
    rintro e w2 ⟨y, rfl, hy, hb2⟩
    have hxs := (sees_of_own ho1).2.below hb2
    go_wp2
    go_ret3
    exact ⟨x, y, rfl, hxs, (sees_of_own hy).2, hbw1.trans (hb2.mono hbw1.size)⟩

end Go.Proofs.Ytiijbklaapaheaa

/- One form: what is taken of bytes is, put again, just the bytes that it had. -/
namespace Go.Proofs.Ytiijbklaapaheaa
open Go.RowKit
set_option maxRecDepth 100000

theorem numB_of (h : Int) (r : List Int) (hr : Byt r) (k : Nat) (hk : h / 2 = k) (hl : k ≤ r.length) (u : Int) (hu : valL (r.take k) = u) (hw : wid u = k) (n : Int) (hs : (h % 2 = 1 ∧ n = -u ∧ n < 0) ∨ (h % 2 = 0 ∧ n = u ∧ 0 ≤ n)) (h0 : 0 ≤ u) :
    numB n = h :: r.take k := by
  have hlen : (r.take k).length = k := by simp; omega
  have hlow := low_valL (r.take k) (hr.take k)
  rw [hlen, hu] at hlow
  rcases hs with ⟨h1, rfl, h3⟩ | ⟨h1, rfl, h3⟩
  · have hm : mag (-u) = u := by unfold mag; split <;> omega
    simp only [numB, hm, hw, if_pos h3, hlow]
    congr 1; omega
  · have hm : mag n = n := by unfold mag; split <;> omega
    simp only [numB, hm, hw, hlow]
    rw [if_neg (by omega)]
    congr 1; omega

theorem tn_put (l : List Int) (hl : Byt l) (h : (tn l).2.2 = 0) : numB (tn l).1 = l.take (tn l).2.1 ∧ -9223372036854775808 ≤ (tn l).1 ∧ (tn l).1 ≤ 9223372036854775807 := by
  cases l with
  | nil => simp [tn] at h
  | cons x r =>
    have hx := hl x (List.mem_cons_self ..)
    have hr : Byt r := fun b hb => hl b (List.mem_cons_of_mem _ hb)
    obtain ⟨k, hk⟩ : ∃ k, (x / 2).toNat = k := ⟨_, rfl⟩
    have hk2 : x / 2 = (k : Int) := by omega
    obtain ⟨u, hu⟩ : ∃ u, valL (r.take k) = u := ⟨_, rfl⟩
    have hv := (valL_bound (r.take k) (hr.take k)).1
    rw [hu] at hv
    simp only [tn, hk, hu] at h ⊢
    by_cases c1 : 17 < x ∨ x = 1
    · simp only [if_pos c1] at h; simp at h
    simp only [if_neg c1] at h ⊢
    by_cases c2 : r.length < k
    · simp only [if_pos c2] at h; simp at h
    simp only [if_neg c2] at h ⊢
    by_cases c3 : wid u ≠ k
    · simp only [if_pos c3] at h; simp at h
    simp only [if_neg c3] at h ⊢
    have hw : wid u = k := by simpa using c3
    have htk : (x :: r).take (1 + k) = x :: r.take k := by rw [Nat.add_comm, List.take_succ_cons]
    by_cases c4 : x % 2 = 1
    · simp only [if_pos c4] at h ⊢
      by_cases c5 : u ≤ 9223372036854775808
      · simp only [if_pos c5]
        have hu1 : 0 < u := by
          by_cases e : u = 0
          · subst e; have : k = 0 := by rw [← hw]; rfl
            omega
          · omega
        rw [htk]
        exact ⟨numB_of x r hr k hk2 (by omega) u hu hw (-u) (.inl ⟨c4, rfl, by omega⟩) hv, by omega, by omega⟩
      · simp only [if_neg c5] at h; simp at h
    · simp only [if_neg c4] at h ⊢
      by_cases c5 : u < 9223372036854775808
      · simp only [if_pos c5]
        rw [htk]
        exact ⟨numB_of x r hr k hk2 (by omega) u hu hw u (.inr ⟨by omega, rfl, hv⟩) hv, by omega, by omega⟩
      · simp only [if_neg c5] at h; simp at h

theorem tb_put (l : List Int) (hl : Byt l) (h : (tb l).2.2 = 0) : putL [((tb l).1.length : Int)] ++ (tb l).1 = l.take (tb l).2.1 ∧ 1 ≤ (tb l).2.1 ∧ (tb l).2.1 ≤ l.length ∧ (tb l).1.length ≤ l.length := by
  have hp := tn_put l hl
  have hle := tn_le l
  unfold tb at h ⊢
  generalize tn l = t at *
  obtain ⟨n, k, er⟩ := t
  simp only at *
  by_cases c1 : er ≠ 0
  · rw [if_pos c1] at h; exact absurd h c1
  rw [if_neg c1] at h ⊢
  have c1' : er = 0 := by simpa using c1
  have hp' := (hp c1').1
  have hle' := hle c1'
  by_cases c2 : n < 0
  · rw [if_pos c2] at h; simp at h
  rw [if_neg c2] at h ⊢
  by_cases c3 : (l.length : Int) - k < n
  · rw [if_pos c3] at h; simp at h
  rw [if_neg c3]
  have hlen : ((l.drop k).take n.toNat).length = n.toNat := by simp; omega
  simp only [hlen, putL, List.append_nil]
  refine ⟨?_, by omega, by omega, by omega⟩
  rw [show ((n.toNat : Nat) : Int) = n from by omega, hp', List.take_add]

end Go.Proofs.Ytiijbklaapaheaa

/- The document's own Blob, TakeBlob and Nums (package trivetref01): they come to the same. -/
namespace Go.Proofs.Ytiijbklaapaheaa
open Go.RowKit
set_option maxRecDepth 100000

theorem sees_empty (w : World) (k : IntKind) (ao : Option Addr) : Sees w k (.slice ao 0 0) [] := ⟨ao, 0, rfl, Nat.le_refl _, fun _ => rfl, fun a _ t ht => by simp at ht⟩

set_option maxHeartbeats 800000 in
theorem refBlob_any (bv dv : Value) (zs ds : List Int) (w : World) (hs : Sees w .u8 bv zs) (hd : Sees w .u8 dv ds) (hn : zs.length + ds.length + 64 ≤ 140737488355328) :
    Calls Try.prog 32 #[bv, dv] w fun e w' => ∃ v', e = .returned v' ∧ w'.ownsRow w.heap.size 5 1 v' (zs.length + sizeL [(ds.length : Int)] + ds.length) (ints .u8 (zs ++ putL [(ds.length : Int)] ++ ds)) ∧ Below w.heap.size w w' := by
  obtain ⟨i0, hi, hz0, hz1, hz2⟩ := info_parts Try.info5
  have hI := I64_one (ds.length : Int) (by omega) (by omega)
  have h9 := sizeL_le [(ds.length : Int)]
  simp only [List.length_singleton] at h9
  have hb0 : Below w.heap.size w (w.alloc (.cells #[.int .i64 (ds.length : Int)] 2)) := (Below.refl _ _).alloc (Nat.le_refl _) _
  have HP := hide (refPut_any bv _ zs [(ds.length : Int)] _ (hs.below hb0) (sees_one w ds.length) (by simp) hI (by omega))
  have hd0 := hd
  obtain ⟨ao, cap, rfl, hlc, hnil, hc⟩ := hd0
  clear hc
  go_enter Try.func32, Try.ntmps32
  go_wp2_with (first
    | (go_at_call 33; refine (unhide HP).mono ?_; rintro e w1 ⟨v1, rfl, ho1, hb1⟩)
    | (at_builtin; refine wpList_append_sees rfl _ _ 22 rfl w.heap.size 5 i0 (.int .u8 0) 1 Try.underlying22 hi hz0 hz1 hz2 rfl _ _ _ rfl (own_mono ho1 (by simp)) .u8 _ ds rfl (hd.below (hb0.trans (hb1.mono (by simp)))) ?d1 ?d2 ?d3 ?_))
  case d1 => unfold maxLen; omega
  case d2 => omega
  case d3 => have := hb1.size; simp at this; omega
  intro v2 w2 ho2 hg2
  have hbw1 : Below w.heap.size w w1 := hb0.trans (hb1.mono (by simp))
  go_wp2
  go_ret
  exact ⟨_, rfl, by rw [ints_append]; exact ho2, hbw1.grown hg2 hbw1.size (own_block_le (own_mono ho1 (by simp)))⟩

set_option maxHeartbeats 800000 in
theorem refTakeBlob_any (bv : Value) (zs : List Int) (w : World) (hs : Sees w .u8 bv zs) (hby : Byt zs) (hm : zs.length ≤ 140737488351232) :
    Calls Try.prog 39 #[bv] w fun e w' => ∃ x, e = .returned (.tuple #[x, .int .i64 (tb zs).2.1, .int .i64 (tb zs).2.2]) ∧ Sees w' .u8 x (tb zs).1 ∧ Below w.heap.size w w' := by
  obtain ⟨i0, hi, hz0, hz1, hz2⟩ := info_parts Try.info5
  have HT := hide (refTake_any bv zs w hs hby (by omega))
  have hle := tn_le zs
  have hp := tn_put zs hby
  unfold tb
  generalize tn zs = t at *
  obtain ⟨n, k, er⟩ := t
  dsimp only at hle hp ⊢
  obtain ⟨ao, cap, rfl, hlc, hnil, hc⟩ := hs
  have hs : Sees w .u8 (.slice ao zs.length cap) zs := ⟨ao, cap, rfl, hlc, hnil, hc⟩
  clear hc hnil
  by_cases he : er ≠ 0
  · rw [if_pos he]
    have hef : (er != 0) = true := by rw [bne_iff_ne]; exact he
    clear hle hp
    go_enter Try.func39, Try.ntmps39
    go_wp2_with (go_at_call 71; refine (unhide HT).mono ?_; rintro e w1 ⟨rfl, rfl⟩)
    go_ret3
    exact ⟨_, rfl, Sees.nil _ _, Below.refl _ _⟩
  have he0 : er = 0 := by simpa using he
  subst he0
  rw [if_neg he]
  obtain ⟨hk1, hk2⟩ := hle rfl
  obtain ⟨_, hn1, hn2⟩ := hp rfl
  clear hp hle he
  by_cases hn : n < 0
  · rw [if_pos hn]
    go_enter Try.func39, Try.ntmps39
    go_wp2_with (go_at_call 71; refine (unhide HT).mono ?_; rintro e w1 ⟨rfl, rfl⟩)
    go_ret3
    exact ⟨_, rfl, Sees.nil _ _, Below.refl _ _⟩
  rw [if_neg hn]
  by_cases hsh : (zs.length : Int) - k < n
  · rw [if_pos hsh]
    go_enter Try.func39, Try.ntmps39
    go_wp2_with (go_at_call 71; refine (unhide HT).mono ?_; rintro e w1 ⟨rfl, rfl⟩)
    go_ret3
    exact ⟨_, rfl, Sees.nil _ _, Below.refl _ _⟩
  rw [if_neg hsh]
  obtain ⟨m, rfl⟩ := Int.eq_ofNat_of_zero_le (by omega : 0 ≤ n)
  rw [Int.toNat_natCast]
  have hcut := (hs.upto.cut k m (by omega)).sees
  have hlen : ((zs.drop k).take m).length = m := by simp; omega
  have HLEN := hide hlen
  clear hs hlen hn1 hn2
  by_cases hck : cap = k
  · obtain rfl : m = 0 := by omega
    clear hcut
    have hse := sees_empty w .u8 ao
    subst hck
    go_enter Try.func39, Try.ntmps39
    go_wp2_with (first
      | (go_at_call 71; refine (unhide HT).mono ?_; rintro e w1 ⟨rfl, rfl⟩)
      | (at_builtin; refine wpList_append_sees rfl _ _ 22 rfl w.heap.size 5 i0 (.int .u8 0) 1 Try.underlying22 hi hz0 hz1 hz2 rfl _ _ _ rfl (World.ownsRow_nil _ _ _ _) .u8 _ [] rfl hse ?d1 ?d2 ?d3 ?_))
    case d1 => unfold maxLen; simp
    case d2 => simp
    case d3 => omega
    intro v2 w2 ho2 hg2
    go_wp2
    go_ret3
    have hb2 : Below w.heap.size w w2 := (Below.refl _ _).grown hg2 (Nat.le_refl _) (fun k h => by cases h)
    have ho3 : w2.ownsRow w.heap.size 5 1 v2 0 (ints .u8 []) := by simpa using ho2
    exact ⟨v2, rfl, by simpa using (sees_of_own ho3).2, hb2⟩
  · rw [if_neg hck] at hcut
    have hcut2 : Sees w .u8 (.slice (Option.map (·.add k) ao) (k + m - k) (cap - k)) ((zs.drop k).take m) := by rw [show k + m - k = m by omega]; exact hcut
    clear hcut
    generalize (zs.drop k).take m = ds at *
    go_enter Try.func39, Try.ntmps39
    go_wp2_with (first
      | (go_at_call 71; refine (unhide HT).mono ?_; rintro e w1 ⟨rfl, rfl⟩)
      | (at_builtin; refine wpList_append_sees rfl _ _ 22 rfl w.heap.size 5 i0 (.int .u8 0) 1 Try.underlying22 hi hz0 hz1 hz2 rfl _ _ _ rfl (World.ownsRow_nil _ _ _ _) .u8 _ ds rfl hcut2 ?d1 ?d2 ?d3 ?_))
    case d1 => rw [HLEN.out]; unfold maxLen; omega
    case d2 => rw [HLEN.out]; omega
    case d3 => omega
    intro v2 w2 ho2 hg2
    go_wp2
    go_ret3
    have hb2 : Below w.heap.size w w2 := (Below.refl _ _).grown hg2 (Nat.le_refl _) (fun k h => by cases h)
    have ho3 : w2.ownsRow w.heap.size 5 1 v2 ds.length (ints .u8 ds) := by simpa using ho2
    exact ⟨v2, congrArg (fun z => Ending.returned (.tuple #[v2, .int .i64 z, .int .i64 0])) (show (k : Int) + (m : Int) = ((k + m : Nat) : Int) by omega), (sees_of_own ho3).2, hb2⟩

end Go.Proofs.Ytiijbklaapaheaa
