/- Record: transactions that may be. -/
import Derived.Test.YtoddemcmmijoaaaXC
namespace Go.Proofs.Ytoddemcmmijoaaa
open Go.RowKit
set_option maxRecDepth 100000

/-- A transaction. -/
structure TxnD where
  ses : Int
  req : Int
  code : List Int
  args : List Int
  reads : List (Int × Int)
  writes : List (Int × Int)
deriving DecidableEq

/-- Its cells. -/
def SeesT (w : World) (cs : Array Value) (t : TxnD) : Prop :=
  ∃ cv av rv wv, cs = #[.int .i64 t.ses, .int .i64 t.req, cv, av, rv, wv] ∧ Sees w .u8 cv t.code ∧ Sees w .i64 av t.args ∧ SeesK w rv t.reads ∧ SeesK w wv t.writes
theorem SeesT.below {w w' : World} {cs : Array Value} {t : TxnD} (h : SeesT w cs t) (hb : Below w.heap.size w w') : SeesT w' cs t := by
  obtain ⟨cv, av, rv, wv, h0, h1, h2, h3, h4⟩ := h
  exact ⟨cv, av, rv, wv, h0, h1.below hb, h2.below hb, h3.below hb, h4.below hb⟩

def mayT (t : TxnD) : Bool := isCnt t.ses && decide (0 < t.ses) && isCnt t.req && decide (0 < t.req) && decide (t.code.length ≤ 512) && decide (t.args.length ≤ 8) && mayK t.reads && mayK t.writes

set_option maxHeartbeats 3200000 in
theorem txnMayBe_any (cs : Array Value) (t : TxnD) (w : World) (hs : SeesT w cs t) :
    Calls Try.prog 59 #[.agg cs] w fun e w' => e = .returned (.bool (mayT t)) ∧ Below w.heap.size w w' := by
  obtain ⟨cv, av, rv, wv, rfl, hc, ha, hr, hw⟩ := hs
  obtain ⟨ac, cc, rfl, _⟩ := id hc
  obtain ⟨aa, ca, rfl, _⟩ := id ha
  obtain ⟨ar, cr, _, _, rfl, _⟩ := id hr
  obtain ⟨aw, cw, _, _, rfl, _⟩ := id hw
  have hb : Below w.heap.size w (w.alloc (.cells #[.int .i64 t.ses, .int .i64 t.req, .slice ac t.code.length cc, .slice aa t.args.length ca, .slice ar t.reads.length cr, .slice aw t.writes.length cw] 81)) := (Below.refl _ _).alloc (Nat.le_refl _) _
  have HB := hide hb
  have HR := hide (keysMayBe_any _ t.reads _ (hr.below hb))
  have HBX : Hid (∀ w', Below (w.heap.size + 1) (w.alloc (.cells #[.int .i64 t.ses, .int .i64 t.req, .slice ac t.code.length cc, .slice aa t.args.length ca, .slice ar t.reads.length cr, .slice aw t.writes.length cw] 81)) w' → w'.cell? ⟨w.heap.size, 5, none⟩ = some (.slice aw t.writes.length cw)) := fun w' h => by
    rw [h.cell (p := ⟨w.heap.size, 5, none⟩) (Nat.lt_succ_self _), World.cell?_alloc_new]; rfl
  have HW := hide hw
  have hl5 : (512 : Nat) = 512 := rfl
  clear hc ha hr hw hb
  obtain ⟨n1, e1⟩ : ∃ n, t.code.length = n := ⟨_, rfl⟩
  obtain ⟨n2, e2⟩ : ∃ n, t.args.length = n := ⟨_, rfl⟩
  obtain ⟨s, es⟩ : ∃ n, t.ses = n := ⟨_, rfl⟩
  obtain ⟨q, eq⟩ : ∃ n, t.req = n := ⟨_, rfl⟩
  unfold mayT
  rw [e1, e2, es, eq]
  rw [e1, e2, es, eq] at HB HR HBX
  clear e1 e2 es eq hl5
  cases h1 : isCnt s with
  | false =>
    go_enter Try.func59, Try.ntmps59
    go_wp2_with (go_at_call 46; refine (isCount_any _ _).mono ?_; rintro e w' ⟨rfl, rfl⟩)
    go_ret
    exact ⟨retBool (by simp [*]), unhide HB⟩
  | true =>
    by_cases h2 : s ≤ 0
    · have ee : Hid (decide (0 < s) = false) := by show decide _ = false; simp; omega
      go_enter Try.func59, Try.ntmps59
      go_wp2_with (go_at_call 46; refine (isCount_any _ _).mono ?_; rintro e w' ⟨rfl, rfl⟩)
      go_ret
      exact ⟨retBool (by rw [unhide ee]; simp), unhide HB⟩
    replace h2 : 0 < s := by omega
    cases h3 : isCnt q with
    | false =>
      go_enter Try.func59, Try.ntmps59
      go_wp2_with (go_at_call 46; refine (isCount_any _ _).mono ?_; rintro e w' ⟨rfl, rfl⟩)
      go_ret
      exact ⟨retBool (by simp [*]), unhide HB⟩
    | true =>
      by_cases h4 : q ≤ 0
      · have ee : Hid (decide (0 < q) = false) := by show decide _ = false; simp; omega
        go_enter Try.func59, Try.ntmps59
        go_wp2_with (go_at_call 46; refine (isCount_any _ _).mono ?_; rintro e w' ⟨rfl, rfl⟩)
        go_ret
        exact ⟨retBool (by rw [unhide ee]; simp), unhide HB⟩
      replace h4 : 0 < q := by omega
      by_cases h5 : 512 < n1
      · have ee : Hid (decide (n1 ≤ 512) = false) := by show decide _ = false; simp; omega
        go_enter Try.func59, Try.ntmps59
        go_wp2_with (go_at_call 46; refine (isCount_any _ _).mono ?_; rintro e w' ⟨rfl, rfl⟩)
        go_ret
        exact ⟨retBool (by rw [unhide ee]; simp), unhide HB⟩
      replace h5 : n1 ≤ 512 := by omega
      by_cases h6 : 8 < n2
      · have ee : Hid (decide (n2 ≤ 8) = false) := by show decide _ = false; simp; omega
        go_enter Try.func59, Try.ntmps59
        go_wp2_with (go_at_call 46; refine (isCount_any _ _).mono ?_; rintro e w' ⟨rfl, rfl⟩)
        go_ret
        exact ⟨retBool (by rw [unhide ee]; simp), unhide HB⟩
      replace h6 : n2 ≤ 8 := by omega
      cases h7 : mayK t.reads with
      | false =>
        go_enter Try.func59, Try.ntmps59
        go_wp2_with (first | (go_at_call 46; refine (isCount_any _ _).mono ?_; rintro e w' ⟨rfl, rfl⟩) | fail)
        refine (unhide HR).mono ?_
        rintro e w1 ⟨rfl, hb1⟩
        have c5 := unhide HBX w1 (by simpa using hb1)
        have HK := hide (keysMayBe_any _ t.writes w1 ((unhide HW).below ((unhide HB).trans (hb1.mono (by simp)))))
        have HB1 : Hid (Below w.heap.size w w1) := (unhide HB).trans (hb1.mono (by simp))
        clear hb1
        rw [h7]
        go_wp2
        go_ret
        exact ⟨retBool (by simp), unhide HB1⟩
      | true =>
        go_enter Try.func59, Try.ntmps59
        go_wp2_with (first | (go_at_call 46; refine (isCount_any _ _).mono ?_; rintro e w' ⟨rfl, rfl⟩) | fail)
        refine (unhide HR).mono ?_
        rintro e w1 ⟨rfl, hb1⟩
        have c5 := unhide HBX w1 (by simpa using hb1)
        have HK := hide (keysMayBe_any _ t.writes w1 ((unhide HW).below ((unhide HB).trans (hb1.mono (by simp)))))
        have HB1 : Hid (Below w.heap.size w w1) := (unhide HB).trans (hb1.mono (by simp))
        clear hb1
        rw [h7]
        go_wp2_with fail
        refine (unhide HK).mono ?_
        rintro e w2 ⟨rfl, hb2⟩
        have HB2 : Hid (Below w.heap.size w w2) := (unhide HB1).trans (hb2.mono (unhide HB1).size)
        clear hb2
        go_wp2
        go_ret
        exact ⟨retBool (by simp [*]), unhide HB2⟩

end Go.Proofs.Ytoddemcmmijoaaa
