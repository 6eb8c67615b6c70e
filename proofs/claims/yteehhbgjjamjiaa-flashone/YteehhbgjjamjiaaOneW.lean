/- FlashOne's walk. -/
import Derived.Test.YteehhbgjjamjiaaM9
import Derived.Test.YteehhbgjjamjiaaOps
import Derived.Test.YteehhbgjjamjiaaOwnW
namespace Go.Proofs.Yteehhbgjjamjiaa
open Go.RowKit

theorem free0 {F : Fl} (h : F.cnt = 0) : 0 ≤ F.cnt ∧ F.cnt ≤ 9223372036854775807 := by omega

theorem box6 {w : World} {x0 x1 x2 x3 x4 x5 : Value} {t : TypeId} (w1 : World) (hb : Below (w.heap.size + 1) (w.alloc (.cells #[x0, x1, x2, x3, x4, x5] t)) w1) :
    w1.cell? ⟨w.heap.size, 0, none⟩ = some x0 ∧ w1.cell? ⟨w.heap.size, 1, none⟩ = some x1 ∧ w1.cell? ⟨w.heap.size, 2, none⟩ = some x2 ∧ w1.cell? ⟨w.heap.size, 3, none⟩ = some x3 ∧ w1.cell? ⟨w.heap.size, 4, none⟩ = some x4 ∧ w1.cell? ⟨w.heap.size, 5, none⟩ = some x5 := by
  have c : ∀ k, w1.cell? ⟨w.heap.size, k, none⟩ = (#[x0, x1, x2, x3, x4, x5] : Array Value)[k]? := fun k => (hb.cell (p := ⟨w.heap.size, k, none⟩) (Nat.lt_succ_self _)).trans (World.cell?_alloc_mark w _ t (0, 0) k)
  exact ⟨c 0, c 1, c 2, c 3, c 4, c 5⟩

/-- The same reading of two flashes where the page is the same. -/
theorem read_same {F G : Fl} {i j : Nat} (hn : G.n = F.n) (h1 : F.down = false) (h2 : G.down = false) (hs : G.st i j = F.st i j) (hb : G.bs i j = F.bs i j) : G.readE i j = F.readE i j ∧ G.readB i j = F.readB i j := by
  have e : G.readE i j = F.readE i j := by
    have hw : G.within i j ↔ F.within i j := by unfold Fl.within; rw [hn]
    unfold Fl.readE
    rw [h1, h2, Int.toNat_natCast, Int.toNat_natCast, hs]
    by_cases c : F.within i j
    · rw [if_neg (not_not_intro c), if_neg (not_not_intro (hw.2 c))]
    · rw [if_pos c, if_pos (fun d => c (hw.1 d))]
  refine ⟨e, ?_⟩
  unfold Fl.readB
  rw [e, Int.toNat_natCast, Int.toNat_natCast, hb]

/-- All pages but those that the change is about are the same. -/
def SameBut (act blk pag : Int) (G F : Fl) : Prop := ∀ i j : Nat, ¬ ((i : Int) = blk ∧ (act = 2 ∨ (j : Int) = pag)) → G.st i j = F.st i j ∧ G.bs i j = F.bs i j
def SamePg (G F : Fl) : Prop := ∀ i j : Nat, G.st i j = F.st i j ∧ G.bs i j = F.bs i j

set_option maxRecDepth 100000 in
set_option maxHeartbeats 6400000 in
theorem flashOne_walk (sv : Value) (n : Nat) (os : Nat → OpV) (o : OpV) (w : World) (hs : SeesOps w sv n os) (ho : OpOk w o) :
    Calls Try.prog 5 #[sv, o.agg] w fun e w' => e = .returned (.bool true) ∧ Below w.heap.size w w' := by
  obtain ⟨act, blk, pag, at_, kep, bv, zs⟩ := o
  obtain ⟨hj4, hj5, hj6, hj7, hkep, hbs, hby⟩ := ho
  simp only at hkep hbs hby
  clear hj4 hj5 hj6 hj7
  have HBS : Hid (∀ w', Below w.heap.size w w' → Sees w' .u8 bv zs) := fun w' hb => hbs.below hb
  have HS : Hid (∀ w', Below w.heap.size w w' → SeesOps w' sv n os) := fun w' hb => hs.below hb
  obtain ⟨aob, cpb, rfl, hj1⟩ := hbs
  obtain ⟨ao, cap0, _, _, rfl, hcap, hn63, hj2, hj3⟩ := hs
  clear hj1 hj2 hj3 hkep
  show Calls Try.prog 5 #[.slice ao n cap0, .agg #[.int .i64 act, .int .i64 blk, .int .i64 pag, .int .i64 at_, .int .i64 kep, .slice aob zs.length cpb]] w _
  go_enter Try.func5, Try.ntmps5
  go_wp2_with fail
  obtain ⟨wb, hwb⟩ : ∃ wb, w.alloc (.cells #[.int .i64 act, .int .i64 blk, .int .i64 pag, .int .i64 at_, .int .i64 kep, .slice aob zs.length cpb] 30) = wb := ⟨_, rfl⟩
  rw [hwb]
  have HBX : Hid (∀ w', Below (w.heap.size + 1) wb w' → w'.cell? ⟨w.heap.size, 0, none⟩ = some (.int .i64 act) ∧ w'.cell? ⟨w.heap.size, 1, none⟩ = some (.int .i64 blk) ∧ w'.cell? ⟨w.heap.size, 2, none⟩ = some (.int .i64 pag) ∧ w'.cell? ⟨w.heap.size, 3, none⟩ = some (.int .i64 at_) ∧ w'.cell? ⟨w.heap.size, 4, none⟩ = some (.int .i64 kep) ∧ w'.cell? ⟨w.heap.size, 5, none⟩ = some (.slice aob zs.length cpb)) := by
    intro w' hb
    rw [← hwb] at hb
    exact box6 w' hb
  have hwbs : wb.heap.size = w.heap.size + 1 := by rw [← hwb]; simp
  have HW0 : Hid (Below w.heap.size w wb) := by rw [← hwb]; exact (Below.refl _ _).alloc (Nat.le_refl _) _
  have HWS := hide hwbs
  clear hwb hwbs
  refine (new_ok 4 wb (by omega) (by omega)).mono ?_
  rintro e w1 ⟨g, h, cap, rfl, hI1, hb1, hg, hh⟩
  rw [unhide HWS] at hg hh hb1
  have hgl := hI1.glt
  have hhl := hI1.hlt
  have HI1 := hide hI1
  have HB1 := hide hb1
  clear hI1 hb1
  go_wp2_with fail
  refine (begun_any w1).mono ?_
  rintro e w2 ⟨rfl, hb2⟩
  have hs1 := (unhide HB1).size
  have HI2 := hide ((unhide HI1).below hb2)
  have HB2 : Hid (Below (w.heap.size + 1) wb w2) := (unhide HB1).trans (hb2.mono (by have := unhide HWS; omega))
  clear hb2 HI1 HB1 hs1
  go_wp2
  go_loopw [32] (fun c wr => ∃ (k : Nat) (F : Fl), k ≤ n ∧ c = .int .i64 k ∧ IsFl wr g h cap F ∧ F.cnt = 0 ∧ F.down = false ∧ F.n = 4 ∧ Below (w.heap.size + 1) wb wr) (fun c _ => n - (intOf c).toNat)
  case atStart => exact ⟨0, Fl.blank 4, by omega, rfl, unhide HI2, rfl, rfl, rfl, unhide HB2⟩
  case round =>
    obtain ⟨k, F, hk, rfl, hI, hc0, hd0, hn4, hB⟩ := hrel
    have hBw : Below w.heap.size w wr := (unhide HW0).trans (hB.mono (by omega))
    have hszr := hB.size
    by_cases hlt : k < n
    · obtain ⟨ao', cap', gb, ob, hv, _, _, hao, hcl⟩ := unhide HS wr hBw
      simp only [Value.slice.injEq, true_and] at hv
      obtain ⟨rfl, rfl⟩ := hv
      obtain rfl := hao (by omega)
      obtain ⟨hok, c0, c1, c2, c3, c4, c5⟩ := hcl k hlt
      obtain ⟨q, hq⟩ : ∃ q, os k = q := ⟨_, rfl⟩
      rw [hq] at hok c0 c1 c2 c3 c4 c5
      clear hcl hao hq
      obtain ⟨a0, a1, a2, a3, a4, qb, qz⟩ := q
      obtain ⟨i0, i1, i2, i3, i4, qs, qby⟩ := hok
      simp only at i0 i1 i2 i3 i4 qs qby c0 c1 c2 c3 c4 c5
      have HQS : Hid (Sees (wr.alloc (.cells #[.int .i64 a0, .int .i64 a1, .int .i64 a2, .int .i64 a3, .int .i64 a4, qb] 30)) .u8 qb qz) := qs.below ((Below.refl _ _).alloc (Nat.le_refl _) _)
      obtain ⟨aoq, cpq, rfl, _⟩ := qs
      have hTw : ∀ k, k < w.heap.size + 1 → ¬ Two g h k := by intro k hk; show ¬ (k = g ∨ k = h); omega
      have HI := hide (hI.alloc (.cells #[.int .i64 a0, .int .i64 a1, .int .i64 a2, .int .i64 a3, .int .i64 a4, .slice aoq qz.length cpq] 30))
      have HBW : Hid (Below (w.heap.size + 1) wb (wr.alloc (.cells #[.int .i64 a0, .int .i64 a1, .int .i64 a2, .int .i64 a3, .int .i64 a4, .slice aoq qz.length cpq] 30))) := hB.alloc (by have := unhide HWS; omega) _
      have hsz2 : w.heap.size + 1 ≤ (wr.alloc (.cells #[.int .i64 a0, .int .i64 a1, .int .i64 a2, .int .i64 a3, .int .i64 a4, .slice aoq qz.length cpq] 30)).heap.size := by simp; have := unhide HWS; omega
      have HSZ2 := hide hsz2
      have HC0 := hide hc0
      have HD0 := hide hd0
      have HN4 := hide hn4
      clear hI hB hBw hszr hc0 hd0 hn4 hsz2 i0 i1 i2 i3 i4
      by_cases e0 : a0 = 0
      · subst e0
        go_wp2_with fail
        refine (prog_all (unhide HI) (free0 (unhide HC0)).1 (free0 (unhide HC0)).2 a1 a2 _ qz (unhide HQS) qby).mono ?_
        rintro e w3 ⟨rfl, hI3, hU3⟩
        have HI3 := hide hI3
        have HB3 := hide ((unhide HBW).trans (hU3.below (unhide HSZ2) hTw))
        clear hI3 hU3
        go_wp2
        go_roundw
        case rel => exact ⟨k + 1, _, by omega, by go_num, unhide HI3, (prog_free F a1 a2 qz (unhide HC0) (unhide HD0)).1, (prog_free F a1 a2 qz (unhide HC0) (unhide HD0)).2, (prog_n F a1 a2 qz).trans (unhide HN4), unhide HB3⟩
        case measure => simp [intOf]; omega
      · by_cases e2 : a0 = 2
        · subst e2
          go_wp2_with fail
          refine (erase_all (unhide HI) (free0 (unhide HC0)).1 (free0 (unhide HC0)).2 a1).mono ?_
          rintro e w3 ⟨rfl, hI3, hU3⟩
          have HI3 := hide hI3
          have HB3 := hide ((unhide HBW).trans (hU3.below (unhide HSZ2) hTw))
          clear hI3 hU3
          go_wp2
          go_roundw
          case rel => exact ⟨k + 1, _, by omega, by go_num, unhide HI3, (erase_free F a1 (unhide HC0) (unhide HD0)).1, (erase_free F a1 (unhide HC0) (unhide HD0)).2, (erase_n F a1).trans (unhide HN4), unhide HB3⟩
          case measure => simp [intOf]; omega
        · go_wp2
          go_roundw
          case rel => exact ⟨k + 1, F, by omega, by go_num, unhide HI, unhide HC0, unhide HD0, unhide HN4, unhide HBW⟩
          case measure => simp [intOf]; omega
    · have HI := hide hI
      have HB := hide hB
      clear hI hB hBw
      have HC0 := hide hc0
      have HD0 := hide hd0
      have HN4 := hide hn4
      clear hc0 hd0 hn4
      go_wp2_with fail
      refine (fclone_any (unhide HI)).mono ?_
      rintro e w3 ⟨g2, h2, cap2, rfl, hJ3, hb3, hg2, hh2⟩
      have HI3 := hide ((unhide HI).below hb3)
      have HJ3 := hide hJ3
      have hl3 := hb3.size
      have hgl2 := (unhide HI).glt
      have hhl2 := (unhide HI).hlt
      have HB3 : Hid (Below (w.heap.size + 1) wb w3) := (unhide HB).trans (hb3.mono (by have := unhide HWS; omega))
      clear hb3 hJ3 HI HB
      obtain ⟨b0, b1, b2, b3, b4, b5⟩ := unhide HBX w3 (unhide HB3)
      go_wp2_with fail
      refine (fuse_ok (unhide HI3) (unhide HD0) 1 kep (by decide)).mono ?_
      rintro e w4 ⟨rfl, hI4, hU4⟩
      have hTw : ∀ k, k < w.heap.size + 1 → ¬ Two g h k := by intro k hk; show ¬ (k = g ∨ k = h); omega
      have hT2 : ∀ k, wr.heap.size ≤ k → ¬ Two g h k := by intro k hk; show ¬ (k = g ∨ k = h); omega
      have hsw := unhide HWS
      have HI4 := hide hI4
      have HJ4 := hide ((unhide HJ3).upd hU4 (Nat.le_refl _) (hT2 g2 hg2) (hT2 h2 hh2))
      have HB4 := hide ((unhide HB3).trans (hU4.below (by omega) hTw))
      have hl4 := hU4.size
      have HS4 : Hid (Sees w4 .u8 (.slice aob zs.length cpb) zs) := unhide HBS w4 ((unhide HW0).trans ((unhide HB4).mono (by omega)))
      clear b0 b1 b2 b3 b4 b5 hI4 hU4 HI3 HJ3 HB3
      obtain ⟨b0, b1, b2, b3, b4, b5⟩ := unhide HBX w4 (unhide HB4)
      have hfc0 : (0 : Int) ≤ ({ F with cnt := 1, keep := kep % 3 } : Fl).cnt := by show (0 : Int) ≤ 1; omega
      have hfc1 : ({ F with cnt := 1, keep := kep % 3 } : Fl).cnt ≤ 9223372036854775807 := by show (1 : Int) ≤ _; omega
      have HFC := hide (And.intro hfc0 hfc1)
      clear hfc0 hfc1
      by_cases ca : act = 2
      all_goals
        first
        | (subst ca
           go_wp2_with fail
           refine (erase_all (unhide HI4) (unhide HFC).1 (unhide HFC).2 blk).mono ?_
           rintro e w5 ⟨rfl, hI5, hU5⟩
           obtain ⟨F5, hF5⟩ : ∃ F5, (Fl.erase { F with cnt := 1, keep := kep % 3 } blk).2 = F5 := ⟨_, rfl⟩
           have HP5 : SameBut 2 blk pag F5 F := by
             intro i j hij
             rw [← hF5]
             exact erase_other { F with cnt := 1, keep := kep % 3 } blk i j (fun c => hij ⟨c, Or.inl rfl⟩)
           have HN5 : Hid (F5.n = 4) := by rw [← hF5]; exact (erase_n _ _).trans (unhide HN4)
           rw [hF5] at hI5
           clear hF5)
        | (go_wp2_with fail
           refine (prog_all (unhide HI4) (unhide HFC).1 (unhide HFC).2 blk pag _ zs (unhide HS4) hby).mono ?_
           rintro e w5 ⟨rfl, hI5, hU5⟩
           obtain ⟨F5, hF5⟩ : ∃ F5, (Fl.prog { F with cnt := 1, keep := kep % 3 } blk pag zs).2 = F5 := ⟨_, rfl⟩
           have HP5 : SameBut act blk pag F5 F := by
             intro i j hij
             rw [← hF5]
             exact prog_other { F with cnt := 1, keep := kep % 3 } blk pag zs i j (fun c => hij ⟨c.1, Or.inr c.2⟩)
           have HN5 : Hid (F5.n = 4) := by rw [← hF5]; exact (prog_n _ _ _ _).trans (unhide HN4)
           rw [hF5] at hI5
           clear hF5)
        have HI5 := hide hI5
        have HJ5 := hide ((unhide HJ4).upd hU5 (Nat.le_refl _) (hT2 g2 hg2) (hT2 h2 hh2))
        have HB5 := hide ((unhide HB4).trans (hU5.below (by omega) hTw))
        have hl5 := hU5.size
        clear b0 b1 b2 b3 b4 b5 hI5 hU5 HI4 HJ4 HB4 HS4 HFC
        have HD := hide (down_any (unhide HI5))
        have hdd : F5.down = true ∨ F5.down = false := by cases F5.down <;> simp
        rcases hdd with hd | hd
        all_goals
          rw [hd] at HD
          first
          | (go_wp2_with fail
             refine (unhide HD).mono ?_
             rintro e w6 ⟨rfl, rfl⟩
             go_wp2_with fail
             refine (restart_ok (unhide HI5) hd).mono ?_
             rintro e w6 ⟨rfl, hI6, hU6⟩
             obtain ⟨F6, hF6⟩ : ∃ F6, ({ F5 with down := false } : Fl) = F6 := ⟨_, rfl⟩
             have HP6 : SamePg F6 F5 := by rw [← hF6]; exact fun i j => ⟨rfl, rfl⟩
             have HN6 : Hid (F6.n = 4) := by rw [← hF6]; exact unhide HN5
             have HD6 : Hid (F6.down = false) := by rw [← hF6]; rfl
             rw [hF6] at hI6
             have HI6 := hide hI6
             have HJ6 := hide ((unhide HJ5).upd hU6 (Nat.le_refl _) (hT2 g2 (by omega)) (hT2 h2 (by omega)))
             have HB6 := hide ((unhide HB5).trans (hU6.below (by omega) hTw))
             have hl6 := hU6.size
             clear hI6 hU6 hF6)
          | (go_wp2_with (go_at_call 11; refine (unhide HD).mono ?_; rintro e w6 ⟨rfl, rfl⟩)
             obtain ⟨w6, rfl⟩ : ∃ w6, w6 = w5 := ⟨w5, rfl⟩
             obtain ⟨F6, rfl⟩ : ∃ F6, F6 = F5 := ⟨F5, rfl⟩
             have HP6 : SamePg F6 F6 := fun i j => ⟨rfl, rfl⟩
             have HN6 := HN5
             have HD6 := hide hd
             have HI6 := HI5
             have HJ6 := HJ5
             have HB6 := HB5
             have hl6 := Nat.le_refl w6.heap.size)
          go_wp2
          go_loopw [88] (fun c wr => ∃ k : Nat, k ≤ 4 ∧ c = .int .i64 k ∧ Below w6.heap.size w6 wr) (fun c _ => 4 - (intOf c).toNat)
          case atStart => exact ⟨0, by omega, rfl, Below.refl _ _⟩
          case round =>
            obtain ⟨k1, hk1, rfl, hbr⟩ := hrel
            have HBR := hide hbr
            clear hbr
            by_cases hlt1 : k1 < 4
            · have hdk : decide ((k1 : Int) < 4) = true := by simp; omega
              go_wp2
              go_loopw [91] (fun c wr => ∃ k : Nat, k ≤ 16 ∧ c = .int .i64 k ∧ Below w6.heap.size w6 wr) (fun c _ => 16 - (intOf c).toNat)
              case atStart => exact ⟨0, by omega, rfl, unhide HBR⟩
              case round =>
                obtain ⟨k2, hk2, rfl, hbr⟩ := hrel
                have HBR2 := hide hbr
                clear hbr
                by_cases hlt2 : k2 < 16
                · obtain ⟨b0, b1, b2, b3, b4, b5⟩ := unhide HBX _ ((unhide HB6).trans ((unhide HBR2).mono (by omega)))
                  by_cases c1 : (k1 : Int) = blk
                  · subst c1
                    by_cases c3 : (k2 : Int) = pag
                    · subst c3
                      go_wp2_with fail
                      go_roundw
                      case rel => exact ⟨k2 + 1, by omega, by go_num, unhide HBR2⟩
                      case measure => simp [intOf]; omega
                    · first
                      | (go_wp2_with fail
                         go_roundw
                         case rel => exact ⟨k2 + 1, by omega, by go_num, unhide HBR2⟩
                         case measure => simp [intOf]; omega)
                      | (have hsm := HP5 k1 k2 (fun c => c.2.elim ca c3)
                         have hsm6 := HP6 k1 k2
                         have hrs := read_same (F := F) (G := F6) (i := k1) (j := k2) ((unhide HN6).trans (unhide HN4).symm) (unhide HD0) (unhide HD6) (hsm6.1.trans hsm.1) (hsm6.2.trans hsm.2)
                         obtain ⟨er, her⟩ : ∃ er, F.readE k1 k2 = er := ⟨_, rfl⟩
                         obtain ⟨rb, hrb⟩ : ∃ rb, F.readB k1 k2 = rb := ⟨_, rfl⟩
                         have hrby : Byt rb := by rw [← hrb]; unfold Fl.readB; split; exact bytesOf_byt _; exact fun b hb => by cases hb
                         have HR1 := hide (read_all ((unhide HJ6).below (unhide HBR2)) k1 k2)
                         have HR2 : Hid (∀ w', Below w6.heap.size w6 w' → Calls Try.prog 27 #[P0 h, .int .i64 k1, .int .i64 k2] w' fun e w'' => ∃ x, e = .returned (.tuple #[x, .int .i64 (F6.readE k1 k2)]) ∧ Sees w'' .u8 x (F6.readB k1 k2) ∧ Below w'.heap.size w' w'') := fun w' hb => read_all ((unhide HI6).below hb) k1 k2
                         rw [hrs.1, hrs.2] at HR2
                         rw [her, hrb] at HR1 HR2
                         clear hsm hsm6 hrs her hrb
                         go_wp2_with fail
                         refine (unhide HR1).mono ?_
                         rintro e w7 ⟨x, rfl, hx, hb7⟩
                         have HX7 := hide hx
                         have HB7 : Hid (Below w6.heap.size w6 w7) := (unhide HBR2).trans (hb7.mono (unhide HBR2).size)
                         clear hx hb7
                         go_wp2_with fail
                         refine (unhide HR2 w7 (unhide HB7)).mono ?_
                         rintro e w8 ⟨y, rfl, hy, hb8⟩
                         have HE := hide (equal_same ((unhide HX7).below hb8) hy hrby)
                         have HB8 : Hid (Below w6.heap.size w6 w8) := (unhide HB7).trans (hb8.mono (unhide HB7).size)
                         clear hy hb8 HX7 HR1 HR2
                         go_wp2_with fail
                         refine (unhide HE).mono ?_
                         rintro e w9 ⟨rfl, rfl⟩
                         go_wp2
                         go_roundw
                         case rel => first | exact ⟨k2 + 1, by omega, by go_num, unhide HB8⟩ | ((repeat apply Exists.intro); exact ⟨⟨k2 + 1, by omega, by go_num, unhide HB8⟩, rfl⟩)
                         case measure => simp [intOf]; omega)
                  · have hsm := HP5 k1 k2 (fun c => c1 c.1)
                    have hsm6 := HP6 k1 k2
                    have hrs := read_same (F := F) (G := F6) (i := k1) (j := k2) ((unhide HN6).trans (unhide HN4).symm) (unhide HD0) (unhide HD6) (hsm6.1.trans hsm.1) (hsm6.2.trans hsm.2)
                    obtain ⟨er, her⟩ : ∃ er, F.readE k1 k2 = er := ⟨_, rfl⟩
                    obtain ⟨rb, hrb⟩ : ∃ rb, F.readB k1 k2 = rb := ⟨_, rfl⟩
                    have hrby : Byt rb := by rw [← hrb]; unfold Fl.readB; split; exact bytesOf_byt _; exact fun b hb => by cases hb
                    have HR1 := hide (read_all ((unhide HJ6).below (unhide HBR2)) k1 k2)
                    have HR2 : Hid (∀ w', Below w6.heap.size w6 w' → Calls Try.prog 27 #[P0 h, .int .i64 k1, .int .i64 k2] w' fun e w'' => ∃ x, e = .returned (.tuple #[x, .int .i64 (F6.readE k1 k2)]) ∧ Sees w'' .u8 x (F6.readB k1 k2) ∧ Below w'.heap.size w' w'') := fun w' hb => read_all ((unhide HI6).below hb) k1 k2
                    rw [hrs.1, hrs.2] at HR2
                    rw [her, hrb] at HR1 HR2
                    clear hsm hsm6 hrs her hrb
                    go_wp2_with fail
                    refine (unhide HR1).mono ?_
                    rintro e w7 ⟨x, rfl, hx, hb7⟩
                    have HX7 := hide hx
                    have HB7 : Hid (Below w6.heap.size w6 w7) := (unhide HBR2).trans (hb7.mono (unhide HBR2).size)
                    clear hx hb7
                    go_wp2_with fail
                    refine (unhide HR2 w7 (unhide HB7)).mono ?_
                    rintro e w8 ⟨y, rfl, hy, hb8⟩
                    have HE := hide (equal_same ((unhide HX7).below hb8) hy hrby)
                    have HB8 : Hid (Below w6.heap.size w6 w8) := (unhide HB7).trans (hb8.mono (unhide HB7).size)
                    clear hy hb8 HX7 HR1 HR2
                    go_wp2_with fail
                    refine (unhide HE).mono ?_
                    rintro e w9 ⟨rfl, rfl⟩
                    go_wp2
                    go_roundw
                    case rel => first | exact ⟨k2 + 1, by omega, by go_num, unhide HB8⟩ | ((repeat apply Exists.intro); exact ⟨⟨k2 + 1, by omega, by go_num, unhide HB8⟩, rfl⟩)
                    case measure => simp [intOf]; omega
                · go_wp2
                  go_roundw
                  case rel => exact ⟨k1 + 1, by omega, by go_num, unhide HBR2⟩
                  case measure => simp [intOf]; omega
            · go_wp2
              go_ret
              exact ⟨rfl, (unhide HW0).trans (((unhide HB6).mono (by omega)).trans ((unhide HBR).mono (by omega)))⟩

end Go.Proofs.Yteehhbgjjamjiaa
