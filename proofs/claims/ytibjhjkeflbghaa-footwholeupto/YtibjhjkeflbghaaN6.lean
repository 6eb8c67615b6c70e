/- MayRead, MayWrite. -/
import Derived.Test.YtibjhjkeflbghaaN5
namespace Go.Proofs.Ytibjhjkeflbghaa
open Go.RowKit
set_option maxRecDepth 100000

set_option maxHeartbeats 800000 in
theorem mayRead_any {x : Tx} {w : World} (hx : SeesX w x) (k0 k1 : Int) : Calls Try.prog 18 #[xV x, .agg #[.int .i32 k0, .int .i64 k1]] w fun e w' => e = .returned (.bool (decide ((k0, k1) ∈ x.rs))) ∧ Below w.heap.size w w' := by
  have HH : Hid (∀ z, Below w.heap.size w z → Calls Try.prog 44 #[x.rv, .agg #[.int .i32 k0, .int .i64 k1]] z fun e w' => e = .returned (.bool (decide ((k0, k1) ∈ x.rs))) ∧ Below z.heap.size z w') := fun z hz => (has_any (hx.rs.below kC_len hz) k0 k1).mono fun _ _ ⟨h1, h2⟩ => ⟨h1, h2.below⟩
  obtain ⟨⟨ac, nc, cc, hc⟩, ⟨aa, na, ca, ha⟩⟩ := And.intro hx.shc hx.sha
  obtain ⟨ar, cr, hr⟩ := hx.rs.shape
  obtain ⟨aw, cw, hw⟩ := hx.ws.shape
  obtain ⟨nr, hnr⟩ : ∃ z, x.rs.length = z := ⟨_, rfl⟩
  obtain ⟨nw, hnw⟩ : ∃ z, x.ws.length = z := ⟨_, rfl⟩
  rw [hnr] at hr
  rw [hnw] at hw
  obtain ⟨d, hd⟩ : ∃ d, decide ((k0, k1) ∈ x.rs) = d := ⟨_, rfl⟩
  rw [hd] at HH ⊢
  unfold xV
  rw [hc, ha, hr, hw]
  rw [hr] at HH
  obtain ⟨sx, hsx⟩ : ∃ z, x.s = z := ⟨_, rfl⟩
  obtain ⟨rx, hrx⟩ : ∃ z, x.r = z := ⟨_, rfl⟩
  rw [hsx, hrx]
  clear hx hc ha hr hw hnr hnw hd hsx hrx
  have HB : Hid (Below w.heap.size w ((w.alloc (.cells #[.int .i64 sx, .int .i64 rx, .slice ac nc cc, .slice aa na ca, .slice ar nr cr, .slice aw nw cw] 26)).alloc (.cells #[.int .i32 k0, .int .i64 k1] 37))) := (below_box _).alloc (by simp) _
  go_enter Try.func18, Try.ntmps18
  go_wp2_with (go_at_call 44; refine ((unhide HH) _ (unhide HB)).mono ?_; rintro e w1 ⟨rfl, hb1⟩; have HF := hide ((unhide HB).trans (hb1.mono (unhide HB).size)); clear hb1)
  go_ret
  exact ⟨rfl, unhide HF⟩
set_option maxHeartbeats 800000 in
theorem mayWrite_any {x : Tx} {w : World} (hx : SeesX w x) (k0 k1 : Int) : Calls Try.prog 20 #[xV x, .agg #[.int .i32 k0, .int .i64 k1]] w fun e w' => e = .returned (.bool (decide ((k0, k1) ∈ x.ws))) ∧ Below w.heap.size w w' := by
  have HH : Hid (∀ z, Below w.heap.size w z → Calls Try.prog 44 #[x.wv, .agg #[.int .i32 k0, .int .i64 k1]] z fun e w' => e = .returned (.bool (decide ((k0, k1) ∈ x.ws))) ∧ Below z.heap.size z w') := fun z hz => (has_any (hx.ws.below kC_len hz) k0 k1).mono fun _ _ ⟨h1, h2⟩ => ⟨h1, h2.below⟩
  obtain ⟨⟨ac, nc, cc, hc⟩, ⟨aa, na, ca, ha⟩⟩ := And.intro hx.shc hx.sha
  obtain ⟨ar, cr, hr⟩ := hx.rs.shape
  obtain ⟨aw, cw, hw⟩ := hx.ws.shape
  obtain ⟨nr, hnr⟩ : ∃ z, x.rs.length = z := ⟨_, rfl⟩
  obtain ⟨nw, hnw⟩ : ∃ z, x.ws.length = z := ⟨_, rfl⟩
  rw [hnr] at hr
  rw [hnw] at hw
  obtain ⟨d, hd⟩ : ∃ d, decide ((k0, k1) ∈ x.ws) = d := ⟨_, rfl⟩
  rw [hd] at HH ⊢
  unfold xV
  rw [hc, ha, hr, hw]
  rw [hw] at HH
  obtain ⟨sx, hsx⟩ : ∃ z, x.s = z := ⟨_, rfl⟩
  obtain ⟨rx, hrx⟩ : ∃ z, x.r = z := ⟨_, rfl⟩
  rw [hsx, hrx]
  clear hx hc ha hr hw hnr hnw hd hsx hrx
  have HB : Hid (Below w.heap.size w ((w.alloc (.cells #[.int .i64 sx, .int .i64 rx, .slice ac nc cc, .slice aa na ca, .slice ar nr cr, .slice aw nw cw] 26)).alloc (.cells #[.int .i32 k0, .int .i64 k1] 37))) := (below_box _).alloc (by simp) _
  go_enter Try.func20, Try.ntmps20
  go_wp2_with (go_at_call 44; refine ((unhide HH) _ (unhide HB)).mono ?_; rintro e w1 ⟨rfl, hb1⟩; have HF := hide ((unhide HB).trans (hb1.mono (unhide HB).size)); clear hb1)
  go_ret
  exact ⟨rfl, unhide HF⟩
theorem rhas_c {v : Value} {l : List Ky} {w : World} (hs : SeesL kC 2 w v l) (k0 k1 : Int) : Calls Try.prog 19 #[v, .agg #[.int .i32 k0, .int .i64 k1]] w fun e w' => e = .returned (.bool (decide ((k0, k1) ∈ l))) ∧ Below w.heap.size w w' :=
  (rhas_any hs k0 k1).mono fun _ _ ⟨h1, h2⟩ => ⟨h1, h2.below⟩
/-- What Of tells is seen. -/
theorem FtV.sees {B : Nat} {f f' : Nat → List Ky} {a : Nat → Option Addr} {L c : Nat → Nat} {a' : Nat → Option Addr} {L' c' : Nat → Nat} {pv tv : Value} {pl tl : List Int} {z : World} (h : FtV B f f' a L c a' L' c' pv tv pl tl z) : SeesF z (ftC a L c a' L' c' pv tv) ⟨f, f', pl, tl⟩ :=
  ⟨a, L, c, a', L', c', pv, tv, rfl, fun p hp => (own_sees kC_len (by decide) (h.rd.2.1 p _ (litR_at _ _ _ hp))).2, fun p hp => (own_sees kC_len (by decide) (h.wt.2.1 p _ (litR_at _ _ _ hp))).2, (own_sees nC_len (by decide) h.ps).2, (own_sees nC_len (by decide) h.ts).2⟩
/-- What a transaction may touch, of so many partitions. -/
def ofP (x : Tx) (n : Int) : Fp := ⟨inP n (srt x.rs), inP n (srt x.ws), ptsL (fun p => (inP n (srt x.rs) p).length) (fun p => (inP n (srt x.ws) p).length), actL (fun p => (inP n (srt x.rs) p).length) (fun p => (inP n (srt x.ws) p).length)⟩
/-- A footprint's value is one of eighteen cells that are cells. -/
def Ft18 (V : Array Value) : Prop := V.size = 18 ∧ V.all (·.oneCell') = true
theorem of_b {x : Tx} {w : World} (n : Int) (hx : SeesX w x) : Calls Try.prog 11 #[xV x, .int .i64 n] w fun e w' => ∃ V, e = .returned (.agg V) ∧ SeesF w' V (ofP x n) ∧ Ft18 V ∧ Below w.heap.size w w' :=
  (of_any n hx).mono fun _ _ ⟨a, c, a', c', pv, tv, he, hv, hb⟩ => ⟨_, he, hv.sees, ⟨rfl, by
    obtain ⟨pa, pc, e1⟩ := own_shape hv.ps
    obtain ⟨ta, tc, e2⟩ := own_shape hv.ts
    rw [e1, e2]
    exact ft_one _ _ _ _ _ _⟩, hb⟩
end Go.Proofs.Ytibjhjkeflbghaa
