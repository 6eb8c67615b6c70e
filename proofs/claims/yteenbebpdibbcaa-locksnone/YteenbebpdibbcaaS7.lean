/- give. -/
import Derived.Test.YteenbebpdibbcaaS6
namespace Go.Proofs.Yteenbebpdibbcaa
open Go.RowKit
set_option maxRecDepth 100000

theorem giv_nil (S : Sto) : giv S [] = (S, []) := rfl
theorem giv_stop {S : Sto} {p : Nat} {c : Cl} (r : List Nat) (hp : S.cs p = some c) (h : (c.hd || !mayS S c) = true) : giv S (p :: r) = (S, []) := by
  rw [giv, hp]
  show (if (c.hd || !mayS S c) = true then _ else _) = _
  rw [if_pos h]
theorem giv_go {S : Sto} {p : Nat} {c : Cl} (r : List Nat) (hp : S.cs p = some c) (h : (c.hd || !mayS S c) = false) : giv S (p :: r) = ((giv (giv1 S p c) r).1, gotS S c.by' ++ (giv (giv1 S p c) r).2) := by
  rw [giv, hp]
  show (if (c.hd || !mayS S c) = true then _ else _) = _
  rw [if_neg (by simp [h])]
theorem own_box {z y : World} {b : Nat} {cs : Array Value} {T : TypeId} (hz : z.heap[b]? = some (.cells cs T)) {base e size n : Nat} {v : Value} {xs : List Value} (hT : e ≠ T) (hb : ∀ j, j ≠ b → y.heap[j]? = z.heap[j]?) (h : z.ownsRow base e size v n xs) : y.ownsRow base e size v n xs :=
  own_keep h fun g hg => hb g (by obtain ⟨cur, hc⟩ := own_in h hg; exact ne_ty hz hc hT)
section
variable {B : Nat → Prop} {lb mq mp : Nat} {w : World} {S : Sto}
theorem may_any (h : Mem B lb mq mp w S) {p : Nat} {c : Cl} (hp : S.cs p = some c) (ha : ∀ x, c.ah = some x → ∃ d, S.cs x = some d) :
    Calls Try.prog 67 #[PN p] w fun e w' => e = .returned (.bool (mayS S c)) ∧ Below w.heap.size w w' := by
  obtain ⟨a, k, ex, hd, ah, be⟩ := c
  cases ah with
  | none => exact may_first h hp
  | some x =>
    obtain ⟨d, hd'⟩ := ha x rfl
    have : mayS S ⟨a, k, ex, hd, some x, be⟩ = (!ex && !d.ex && d.hd) := by
      show (match S.cs x with | some d => !ex && !d.ex && d.hd | none => false) = _
      rw [hd']
    rw [this]
    exact may_next h hp hd'
set_option maxHeartbeats 4000000 in
theorem give_any (h : Mem B lb mq mp w S) (hB : ∀ j, w.heap.size ≤ j → B j) {ps : List Nat} (hb : BeL S.cs ps) (hnd : ps.Nodup) (hg : GOk S ps.length) (hl : ps.length ≤ 1099511627776) :
    Calls Try.prog 46 #[PO ps.head?] w fun e w' => ∃ v, e = .returned v ∧ Mem B lb mq mp w' (giv S ps).1 ∧ w'.ownsRow w.heap.size 86 1 v (giv S ps).2.length ((giv S ps).2.map PN) ∧ Upd B w.heap.size w w' := by
  obtain ⟨N, hN⟩ : ∃ n, w.heap.size = n := ⟨_, rfl⟩
  obtain ⟨m, hm⟩ : ∃ n, ps.length = n := ⟨_, rfl⟩
  rw [hN]
  have H0 := hide (And.intro h (And.intro hb hg))
  have HND := hide hnd
  have HB := hide hB
  have HL := hide hm
  rw [hm] at hl
  clear h hb hg hnd hB hm
  go_enter Try.func46, Try.ntmps46
  go_wp2
  go_loopw [0, 3] (fun c r0 wr => ∃ (t : Nat) (St : Sto) (dn : List Nat) (rv : Value), r0 = rv ∧ t ≤ m ∧ c = PO (ps.drop t).head? ∧ giv S ps = ((giv St (ps.drop t)).1, dn ++ (giv St (ps.drop t)).2) ∧ dn.length ≤ t ∧ Mem B lb mq mp wr St ∧ BeL St.cs (ps.drop t) ∧ GOk St (m - t) ∧ wr.ownsRow N 86 1 rv dn.length (dn.map PN) ∧ Upd B N w wr) (fun c _ _ => mes ps c)
  case atStart =>
    obtain ⟨h1, h2, h3⟩ := unhide H0
    exact ⟨0, S, [], _, rfl, by omega, rfl, by rw [List.drop_zero]; rfl, Nat.le_refl _, h1, h2, by rw [unhide HL] at h3; exact h3, own_nil _ _ _ _, Upd.refl _ _ _⟩
  case round =>
    clear H0
    obtain ⟨t, St, dn, rv, hr0, ht, rfl, hgv, hdl, hM, hBe, hG, hO, hU⟩ := hrel
    replace hr0 := hr0.symm
    subst hr0
    obtain ⟨rest, hrest⟩ : ∃ r, ps.drop t = r := ⟨_, rfl⟩
    have hrl : rest.length = m - t := by rw [← hrest, List.length_drop, unhide HL]
    rw [hrest] at hgv hBe ⊢
    obtain ⟨ao, cap, rfl⟩ := own_shape hO
    obtain ⟨n, hn⟩ : ∃ n, dn.length = n := ⟨_, rfl⟩
    rw [hn] at hO hdl
    have hstop : giv St rest = (St, []) → giv S ps = (St, dn) := fun e => by rw [hgv, e]; simp
    cases rest with
    | nil =>
      have hF := hide (And.intro hM (And.intro hO (And.intro hU (hstop rfl))))
      clear hM hO hU hstop hBe hG hgv
      simp only [List.head?_nil, PO]
      go_wp2
      go_ret
      obtain ⟨hM, hO, hU, hs⟩ := unhide hF
      rw [hs]
      exact ⟨_, rfl, hM, by rw [hn]; exact hO, hU⟩
    | cons p r =>
      obtain ⟨⟨c, hp, hbe⟩, hBr⟩ := hBe
      simp only [List.head?_cons, PO]
      have hp4 : wr.cell? ⟨p, 4, none⟩ = some (.bool c.hd) := hM.rd_cs hp 4
      cases hhd : c.hd with
      | true =>
        rw [hhd] at hp4
        have hF := hide (And.intro hM (And.intro hO (And.intro hU (hstop (giv_stop r hp (by rw [hhd]; rfl))))))
        clear hM hO hU hstop hBr hG hgv
        go_wp2
        go_ret
        obtain ⟨hM, hO, hU, hs⟩ := unhide hF
        rw [hs]
        exact ⟨_, rfl, hM, by rw [hn]; exact hO, hU⟩
      | false =>
        rw [hhd] at hp4
        have HC := hide (may_any hM hp (hG.ah p c · hp))
        cases hmy : mayS St c with
        | false =>
          rw [hmy] at HC
          have hF : Hid (∀ w1, Below wr.heap.size wr w1 → Mem B lb mq mp w1 St ∧ w1.ownsRow N 86 1 (.slice ao n cap) n (dn.map PN) ∧ Upd B N w w1 ∧ giv S ps = (St, dn)) := fun w1 hb1 => ⟨hM.below hb1, own_below hO hb1, hU.trans ((Upd.of hb1).less (by have := hU.size; omega)), hstop (giv_stop r hp (by rw [hhd, hmy]; rfl))⟩
          clear hM hO hU hstop hBr hG hgv
          go_wp2_with (go_at_call 67; refine (unhide HC).mono ?_; rintro e w1 ⟨rfl, hb1⟩)
          go_ret
          obtain ⟨hM, hO, hU, hs⟩ := unhide hF w1 hb1
          rw [hs]
          exact ⟨_, rfl, hM, by rw [hn]; exact hO, hU⟩
        | true =>
          rw [hmy] at HC
          have hgo := giv_go r hp (by rw [hhd, hmy]; rfl)
          obtain ⟨x, hx⟩ := hG.by' p c hp
          have hlk := hG.lk _ _ hx
          obtain ⟨lk1, hlk1⟩ : ∃ z, x.lacks - 1 = z := ⟨_, rfl⟩
          have hw : IntKind.i64.wrap (x.lacks - 1) = lk1 := by rw [wrap_i64 _ (by omega) (by omega)]; exact hlk1
          have hF : Hid (∀ w1, Below wr.heap.size wr w1 → (w1.cell? ⟨p, 0, none⟩ = some (PN c.by') ∧ w1.cell? ⟨p, 4, none⟩ = some (.bool false) ∧ w1.frozen? ⟨p, 4, none⟩ = false) ∧ ((w1.setCell ⟨p, 4, none⟩ (.bool true)).cell? ⟨c.by', 4, none⟩ = some (.int .i64 x.lacks) ∧ (w1.setCell ⟨p, 4, none⟩ (.bool true)).frozen? ⟨c.by', 4, none⟩ = false) ∧
              ∃ W3, (w1.setCell ⟨p, 4, none⟩ (.bool true)).setCell ⟨c.by', 4, none⟩ (.int .i64 lk1) = W3 ∧ W3.cell? ⟨c.by', 4, none⟩ = some (.int .i64 lk1) ∧ Mem B lb mq mp W3 (giv1 St p c) ∧ W3.ownsRow N 86 1 (.slice ao n cap) n (dn.map PN) ∧ Upd B N w W3 ∧ N ≤ W3.heap.size ∧ W3.cell? ⟨p, 6, none⟩ = some (PO c.be)) := fun w1 hb1 => by
            have m1 := hM.below hb1
            have m2 := m1.set_cs (i := 4) (v := .bool true) (c' := { c with hd := true }) hp rfl
            have hx2 : ({ St with cs := up St.cs p { c with hd := true } } : Sto).ak c.by' = some x := hx
            have m3 := m2.set_ak (i := 4) (v := .int .i64 lk1) (c' := { x with lacks := x.lacks - 1 }) hx2 (by rw [← hlk1]; rfl) rfl rfl
            rw [md_up (g := fun a : Ak => { a with lacks := a.lacks - 1 }) hx2] at m3
            have u1 : Upd B N w w1 := hU.trans ((Upd.of hb1).less (by have := hU.size; omega))
            have u3 := (u1.setCell (p := ⟨p, 4, none⟩) (.inl (hM.cs p c hp).2) (.bool true)).setCell (p := ⟨c.by', 4, none⟩) (.inl (hM.ak _ x hx).2) (.int .i64 lk1)
            have o2 : (w1.setCell ⟨p, 4, none⟩ (.bool true)).ownsRow N 86 1 (.slice ao n cap) n (dn.map PN) := own_box (m1.cs p c hp).1 (by decide) (fun j hj => setCell_far hj) (own_below hO hb1)
            have o3 := own_box (y := (w1.setCell ⟨p, 4, none⟩ (.bool true)).setCell ⟨c.by', 4, none⟩ (.int .i64 lk1)) (m2.ak _ x hx2).1 (by decide) (fun j hj => setCell_far hj) o2
            refine ⟨⟨m1.rd_cs hp 0, (m1.rd_cs hp 4).trans (by rw [← hhd]; rfl), m1.fr_cs hp 4⟩, ⟨m2.rd_ak hx2 4, m2.fr_ak hx2 4⟩, _, rfl, ?_, m3, o3, u3, by have := u3.size; omega, ?_⟩
            · exact World.cell?_setCell_same _ _ _ (m2.rd_ak hx2 4)
            · have e : (giv1 St p c).cs p = some { c with hd := true } := up_same _ _ _
              exact m3.rd_cs e 6
          have hgot : gotS St c.by' = if lk1 = 0 then [c.by'] else [] := by unfold gotS; rw [hx, ← hlk1]
          have hrd : r = ps.drop (t + 1) := by
            have := congrArg List.tail hrest
            rw [List.tail_drop] at this
            exact this.symm
          have htm : t < m := by rw [List.length_cons] at hrl; omega
          have hhead : PO c.be = PO (ps.drop (t + 1)).head? := by rw [hbe, hrd]
          have hBr' : BeL (giv1 St p c).cs (ps.drop (t + 1)) := by
            rw [← hrd]
            refine BeL.keep (fun y d hd => ?_) hBr
            by_cases e : y = p
            · subst e
              rw [hp] at hd
              injection hd with hd
              subst hd
              exact ⟨_, up_same _ _ _, rfl⟩
            · exact ⟨d, (up_other _ _ e).trans hd, rfl⟩
          have hG' : GOk (giv1 St p c) (m - (t + 1)) := by
            have e : m - t = (m - (t + 1)) + 1 := by omega
            rw [e] at hG
            exact hG.step hp
          have hpt : ps[t]? = some p := by
            have := congrArg List.head? hrest
            rw [List.head?_drop] at this
            exact this
          have hmes : mes ps (PO (ps.drop (t + 1)).head?) < mes ps (PN p) := by
            have hnd := unhide HND
            have hidx : ∀ {i y : Nat}, ps[i]? = some y → ps.idxOf y = i := fun {i y} hi => by
              obtain ⟨hi1, hi2⟩ := List.getElem?_eq_some_iff.1 hi
              rw [← hi2]
              exact hnd.idxOf_getElem i hi1
            have hml : ps.length = m := unhide HL
            have e1 : mes ps (PN p) = m - t := by show ps.length - ps.idxOf p = _; rw [hidx hpt, hml]
            rw [e1, List.head?_drop]
            cases hn : ps[t + 1]? with
            | none => show 0 < _; omega
            | some y =>
              show ps.length - ps.idxOf y < _
              rw [hidx hn, hml]; omega
          rw [hgo, hgot] at hgv
          by_cases hz : lk1 = 0
          · have hgv' : giv S ps = ((giv (giv1 St p c) (ps.drop (t + 1))).1, (dn ++ [c.by']) ++ (giv (giv1 St p c) (ps.drop (t + 1))).2) := by
              rw [hgv, if_pos hz, ← hrd]; simp
            subst hz
            have hA : Hid (∀ W3 : World, Mem B lb mq mp W3 (giv1 St p c) → W3.ownsRow N 86 1 (.slice ao n cap) n (dn.map PN) → Upd B N w W3 → N ≤ W3.heap.size → ∃ Z, W3.alloc (.cells #[PN c.by'] 86) = Z ∧ ∃ v' y, (Builtin.append_ #[97, 97] 97 #[.slice ao n cap, .slice (some ⟨W3.heap.size, 0, none⟩) 1 1]).run Try.prog Z = .ok v' y ∧ Mem B lb mq mp y (giv1 St p c) ∧ y.ownsRow N 86 1 v' (dn ++ [c.by']).length ((dn ++ [c.by']).map PN) ∧ Upd B N w y ∧ y.cell? ⟨p, 6, none⟩ = some (PO c.be)) := fun W3 hM3 ho hU3 hN3 => by
              have bZ : Below W3.heap.size W3 (W3.alloc (.cells #[PN c.by'] 86)) := below_box _
              have ho' := own_below ho bZ
              have ho2 := ho'
              rw [← flat_aC] at ho2
              obtain ⟨v', y, hr, h2, h3⟩ := append_as 97 ho2 (sees_oneA W3 c.by' 86) (by simp; omega) (by simp; omega)
              rw [flat_aC] at h2
              have hMy := (hM3.below bZ).gr (by decide) ho' h3
              have e : (giv1 St p c).cs p = some { c with hd := true } := up_same _ _ _
              refine ⟨_, rfl, v', y, hr, hMy, by simpa [hn] using h2, ?_, hMy.rd_cs e 6⟩
              exact hU3.trans ((Upd.of (bZ.mono hN3)).trans (Upd.of ((Below.refl N _).grown h3 (by simp; omega) fun k hk => (ho'.lt k hk).1)))
            have HX := hide (And.intro hhead (And.intro hBr' (And.intro hG' (And.intro hmes (And.intro hgv' (And.intro htm hdl))))))
            clear hM hO hU hstop hBr hG hgv hgo hx hlk hgot hrd hhead hBr' hG' hpt hmes hgv' hlk1 hp htm hbe hmy hdl
            go_wp2_with (first | (go_at_call 67; refine (unhide HC).mono ?_; rintro e w1 ⟨rfl, hb1⟩; obtain ⟨⟨f1, f2, f3⟩, ⟨f4, f5⟩, W3, hW3, f6, hM3, hO3, hU3, hN3, f7⟩ := unhide hF w1 hb1; obtain ⟨Z, hZ, v', y, hrun, hMy, hOy, hUy, g7⟩ := unhide hA W3 hM3 hO3 hU3 hN3; have HR := hide hrun; have HM := hide (And.intro hMy (And.intro hOy hUy)); clear hrun hMy hOy hUy hM3 hO3 hU3) | rw [hW3] | rw [hZ] | (at_builtin; refine wpList_append_run rfl _ _ 97 97 rfl rfl rfl (unhide HR) ?_))
            go_roundw
            case rel =>
              obtain ⟨hhead, hBr', hG', hmes, hgv', htm, hdl⟩ := unhide HX
              exact ⟨t + 1, _, _, _, rfl, htm, hhead, hgv', by simp; omega, (unhide HM).1, hBr', hG', (unhide HM).2.1, (unhide HM).2.2⟩
            case measure =>
              obtain ⟨hhead, hBr', hG', hmes, hgv', htm, hdl⟩ := unhide HX
              rw [hhead]; exact hmes
          · have hgv' : giv S ps = ((giv (giv1 St p c) (ps.drop (t + 1))).1, dn ++ (giv (giv1 St p c) (ps.drop (t + 1))).2) := by
              rw [hgv, if_neg hz, ← hrd]; simp
            have HX := hide (And.intro hhead (And.intro hBr' (And.intro hG' (And.intro hmes (And.intro hgv' (And.intro htm hdl))))))
            clear hM hO hU hstop hBr hG hgv hgo hx hlk hgot hrd hhead hBr' hG' hpt hmes hgv' hlk1 hp htm hbe hmy hdl
            go_wp2_with (first | (go_at_call 67; refine (unhide HC).mono ?_; rintro e w1 ⟨rfl, hb1⟩; obtain ⟨⟨f1, f2, f3⟩, ⟨f4, f5⟩, W3, hW3, f6, hM3, hO3, hU3, hN3, f7⟩ := unhide hF w1 hb1; have HM := hide (And.intro hM3 (And.intro hO3 hU3)); clear hM3 hO3 hU3) | rw [hW3])
            go_roundw
            case rel =>
              obtain ⟨hhead, hBr', hG', hmes, hgv', htm, hdl⟩ := unhide HX
              exact ⟨t + 1, _, _, _, rfl, htm, hhead, hgv', by omega, (unhide HM).1, hBr', hG', by rw [hn]; exact (unhide HM).2.1, (unhide HM).2.2⟩
            case measure =>
              obtain ⟨hhead, hBr', hG', hmes, hgv', htm, hdl⟩ := unhide HX
              rw [hhead]; exact hmes
end
end Go.Proofs.Yteenbebpdibbcaa
