/- Several texts as one. -/
import Derived.Test.YtldapckooohigaaDoorJSH
import Derived.Test.YtldapckooohigaaDoorJSP
import Derived.Test.YtldapckooohigaaDoorE0
import Derived.Test.YtldapckooohigaaDoorJC
import Derived.RegionTactic
import Derived.ChangeAlike
import Derived.BigQuiet
import Derived.Deep.QuietTactic
import Derived.Test.YtldapckooohigaaDoorJS

/- A run in memory. -/
namespace Go.Proofs.YtldapckooohigaaDoor
open Go.RowKit
set_option maxRecDepth 100000

/-- Where a run stands: the next instruction, how many ran, registers, what was written, answered. -/
structure Mc where
  pc : Nat
  st : Nat
  rg : List Int
  wr : List Ch
  out : List Int
/-- What a run is of: instructions, arguments, reads, writes, the values read. -/
structure Tp where
  L : List Ins
  ar : List Int
  rs : List Ky
  ws : List Ky
  vals : List Pr
/-- What of a run stays, in memory. -/
structure Env where
  s : Int
  r : Int
  cv : Value
  av : Value
  rv : Value
  wv : Value
  lv : Value
  pl : List Int
  mr : Nat
  mw : Nat
abbrev iv (x : Int) : Value := .int .i64 x
def hdV (E : Env) : List Value := [iv E.s, iv E.r, E.cv, E.av, E.rv, E.wv, E.lv]
def tlV (E : Env) (s : Mc) (ov : Value) : List Value := s.rg.map iv ++ [.map (some E.mr), .map (some E.mw), ov]
/-- The cells of a run. -/
def rC (E : Env) (s : Mc) (ov : Value) : Array Value := (hdV E ++ (E.pl.map iv ++ ([iv s.pc, iv s.st] ++ tlV E s ov))).toArray
section
variable {E : Env} {s : Mc} {ov : Value}
theorem rC_hd {i : Nat} (h : i < 7) : (rC E s ov)[i]? = (hdV E)[i]? := by
  unfold rC
  rw [List.getElem?_toArray, List.getElem?_append_left (by simp [hdV]; omega)]
theorem rC_pl {i : Nat} (hp : E.pl.length = 512) (h : i < 512) : (rC E s ov)[7 + i]? = some (iv (E.pl.getD i 0)) := by
  unfold rC
  rw [List.getElem?_toArray, List.getElem?_append_right (by simp [hdV])]
  have e : 7 + i - (hdV E).length = i := by simp [hdV]
  rw [e, List.getElem?_append_left (by simp; omega), List.getElem?_map, List.getElem?_eq_getElem (by omega), List.getD_eq_getElem?_getD, List.getElem?_eq_getElem (by omega)]
  rfl
theorem rC_far {i : Nat} (hp : E.pl.length = 512) (h : 519 ≤ i) : (rC E s ov)[i]? = ([iv s.pc, iv s.st] ++ tlV E s ov)[i - 519]? := by
  unfold rC
  rw [List.getElem?_toArray, List.getElem?_append_right (by simp [hdV]; omega), List.getElem?_append_right (by simp [hdV]; omega)]
  congr 1
  simp [hdV]
  omega
theorem rC_pc (hp : E.pl.length = 512) : (rC E s ov)[519]? = some (iv s.pc) := by rw [rC_far hp (by omega)]; rfl
theorem rC_st (hp : E.pl.length = 512) : (rC E s ov)[520]? = some (iv s.st) := by rw [rC_far hp (by omega)]; rfl
theorem rC_rg {i : Nat} (hp : E.pl.length = 512) (hr : s.rg.length = 8) (h : i < 8) : (rC E s ov)[521 + i]? = some (iv (s.rg.getD i 0)) := by
  rw [rC_far hp (by omega), show 521 + i - 519 = i + 2 by omega]
  show (tlV E s ov)[i]? = _
  unfold tlV
  rw [List.getElem?_append_left (by simp; omega), List.getElem?_map, List.getElem?_eq_getElem (by omega), List.getD_eq_getElem?_getD, List.getElem?_eq_getElem (by omega)]
  rfl
theorem rC_end {i : Nat} (hp : E.pl.length = 512) (hr : s.rg.length = 8) (h : 529 ≤ i) : (rC E s ov)[i]? = [Value.map (some E.mr), .map (some E.mw), ov][i - 529]? := by
  rw [rC_far hp (by omega), show i - 519 = i - 521 + 2 by omega]
  show (tlV E s ov)[i - 521]? = _
  unfold tlV
  rw [List.getElem?_append_right (by simp; omega)]
  congr 1
  simp
  omega
theorem rC_size (hp : E.pl.length = 512) (hr : s.rg.length = 8) : (rC E s ov).size = 532 := by
  simp [rC, hdV, tlV, hp, hr]
theorem rC_set {i : Nat} {v : Value} {s' : Mc} {ov' : Value} (hp : E.pl.length = 512) (h : 519 ≤ i) (e : ([iv s.pc, iv s.st] ++ tlV E s ov).set (i - 519) v = [iv s'.pc, iv s'.st] ++ tlV E s' ov') : (rC E s ov).setIfInBounds i v = rC E s' ov' := by
  unfold rC
  rw [List.setIfInBounds_toArray, List.set_append_right _ _ (by simp [hdV]; omega), List.set_append_right _ _ (by simp [hdV]; omega), ← e]
  congr 4
  simp [hdV]
  omega
theorem rC_setPc (hp : E.pl.length = 512) (n : Nat) : (rC E s ov).setIfInBounds 519 (iv n) = rC E { s with pc := n } ov := rC_set hp (by omega) rfl
theorem rC_setSt (hp : E.pl.length = 512) (n : Nat) : (rC E s ov).setIfInBounds 520 (iv n) = rC E { s with st := n } ov := rC_set hp (by omega) rfl
theorem rC_setRg {i : Nat} (hp : E.pl.length = 512) (hr : s.rg.length = 8) (hi : i < 8) (v : Int) : (rC E s ov).setIfInBounds (521 + i) (iv v) = rC E { s with rg := s.rg.set i v } ov := rC_set hp (by omega) (by
  rw [show 521 + i - 519 = i + 2 by omega]
  show iv s.pc :: iv s.st :: (tlV E s ov).set i (iv v) = _
  unfold tlV
  rw [List.set_append_left _ _ (by simp; omega), ← List.map_set]
  rfl)
theorem rC_setOut (hp : E.pl.length = 512) (hr : s.rg.length = 8) (o : List Int) (v : Value) : (rC E s ov).setIfInBounds 531 v = rC E { s with out := o } v := rC_set hp (by omega) (by
  show iv s.pc :: iv s.st :: (tlV E s ov).set 10 v = _
  unfold tlV
  rw [List.set_append_right _ _ (by simp; omega)]
  simp [hr])
end
def chE (c : Ch) : Ky × Value := (c.1, .agg #[.int .i32 c.1.1, .int .i64 c.1.2, .int .i64 c.2.1, .bool c.2.2])
def prE (p : Pr) : Ky × Value := (p.1, .int .i64 p.2)
end Go.Proofs.YtldapckooohigaaDoor

/- What a run does, in pure terms; its memory kept and turned. -/
namespace Go.Proofs.YtldapckooohigaaDoor
open Go.RowKit
open Go.ChangeMaps (setBlock heap_setBlock_same heap_setBlock_other)
set_option maxRecDepth 100000

/-- An entry set at its key, or behind all. -/
def addV (l : List (Ky × Value)) (q : Ky × Value) : List (Ky × Value) := if q.1 ∈ l.map (·.1) then l.set ((l.map (·.1)).idxOf q.1) q else l ++ [q]
section
variable {w : World} {mb : Nat} {l : List (Ky × Value)} {T E : TypeId}
theorem map_put (hT : Tryd.prog.underlying T = some (.map 38 E)) (h : MapAt w mb l) (ho : ∀ q ∈ l, OkK q.1) (hn : (l.map (·.1)).Nodup) {k : Ky} (hk : OkK k) (u : Value) :
    ∃ y, (Instr.mapUpdate T (.map (some mb)) (keyV k.1 k.2) u).run Tryd.prog w = .ok () y ∧ MapAt y mb (addV l (k, u)) ∧ (∀ j, j ≠ mb → y.heap[j]? = w.heap[j]?) ∧ y.heap.size = w.heap.size ∧ y.os = w.os ∧ y.tape = w.tape ∧ y.output = w.output := by
  by_cases hin : k ∈ l.map (·.1)
  · obtain ⟨es, clock, hm, hes, hent, hrev, hst⟩ := h.entsS
    obtain ⟨s, hs⟩ := keyOf_key hk
    have hall : ∀ e ∈ es.toList, ∃ l, keyOf Tryd.prog 38 e.key = some l := fun e he => by
      obtain ⟨q, hq, e1, _⟩ := hent e he
      rw [e1]
      exact keyOf_key (ho q hq)
    rcases key_law.find w hs es.toList hall with ⟨_, h2⟩ | ⟨j, e0, h1, h2, h3⟩
    · obtain ⟨q, hq, rfl⟩ := List.mem_map.1 hin
      obtain ⟨e, he, e1⟩ := hrev _ hq
      exact absurd e1 (h2 e he)
    · have hj : es[j]? = some e0 := by simpa using h2
      have hlen : es.toList.length = l.length := by simpa using congrArg List.length hes
      have hjl : j < l.length := by rw [← hlen]; exact (List.getElem?_eq_some_iff.1 h2).1
      have hkj : l[j].1 = k := by
        have h4 : (es.toList.map (fun e => (e.key, e.val)))[j]? = some (e0.key, e0.val) := by rw [List.getElem?_map, h2]; rfl
        rw [hes, List.getElem?_map, List.getElem?_eq_getElem hjl] at h4
        simp only [Option.map_some, Option.some.injEq, Prod.mk.injEq] at h4
        exact keyV_inj (h4.1.trans h3)
      have hidx : (l.map (·.1)).idxOf k = j := by
        have hi := List.idxOf_lt_length_of_mem hin
        have hg := List.getElem_idxOf hi
        refine (List.getElem_inj (h₀ := hi) (h₁ := by simpa using hjl) hn).1 ?_
        rw [hg, List.getElem_map, hkj]
      refine ⟨setBlock w mb (.map (es.modify j (fun e' => { e' with key := keyV k.1 k.2, val := u })) clock), ?_, ⟨_, _, heap_setBlock_same hm _, ?_, ?_⟩, fun j hj => heap_setBlock_other hm _ hj, by simp [setBlock], rfl, rfl, rfl⟩
      · have h4 := fun b => key_law.check w b hs
        have h5 := key_law.stays w hs
        unfold keyV at h1 h3 h4 h5
        simp [Instr.mapUpdate, run_underlying hT, MapKept.run_getObj_map hm, h4, h1, hj, h3, h5, MapKept.run_setObj_map _ hm, Result.andThen, setBlock, keyV]
      · unfold addV
        rw [if_pos hin, hidx, Array.toList_modify, ChangeMaps.modify_eq_set _ _ _ _ h2, List.map_set, hes, List.map_set]
      · refine stp_of hst ?_
        rw [Array.toList_modify, ChangeMaps.modify_eq_set _ _ _ _ h2, List.map_set]
        refine List.ext_getElem? fun i => ?_
        by_cases hi : j = i
        · subst hi
          have hjm : j < (es.toList.map (·.born)).length := by simpa using (List.getElem?_eq_some_iff.1 h2).1
          rw [List.getElem?_set_self hjm, List.getElem?_map, h2]
          rfl
        · rw [List.getElem?_set_ne hi]
  · obtain ⟨y, h1, h2, h3⟩ := put_new hT h ho hk (fun q hq e => hin (List.mem_map.2 ⟨q, hq, e⟩)) u
    exact ⟨y, h1, by unfold addV; rw [if_neg hin]; exact h2, h3⟩
end
theorem chE_keys (D : List Ch) : (D.map chE).map (·.1) = keysD D := by unfold keysD; rw [List.map_map]; rfl
theorem prE_keys (D : List Pr) : (D.map prE).map (·.1) = keysOf D := by unfold keysOf; rw [List.map_map]; rfl
theorem addV_chE (D : List Ch) (c : Ch) : addV (D.map chE) (chE c) = (addD D c).map chE := by
  unfold addV addD
  rw [chE_keys]
  show (if c.1 ∈ keysD D then (D.map chE).set ((keysD D).idxOf c.1) (chE c) else D.map chE ++ [chE c]) = _
  by_cases h : c.1 ∈ keysD D
  · rw [if_pos h, if_pos h, List.map_set]
  · rw [if_neg h, if_neg h, List.map_append]; rfl
theorem addV_prE (D : List Pr) (c : Pr) : addV (D.map prE) (prE c) = (addP D c).map prE := by
  unfold addV addP
  rw [prE_keys]
  show (if c.1 ∈ keysOf D then (D.map prE).set ((keysOf D).idxOf c.1) (prE c) else D.map prE ++ [prE c]) = _
  by_cases h : c.1 ∈ keysOf D
  · rw [if_pos h, if_pos h, List.map_set]
  · rw [if_neg h, if_neg h, List.map_append]; rfl

/-! ### what an instruction does -/
def rgA (s : Mc) (i : Int) : Int := s.rg.getD i.toNat 0
def setR (s : Mc) (i v : Int) : Mc := { s with rg := s.rg.set i.toNat v }
/-- What a key has: written, or else read. -/
def valP (P : Tp) (s : Mc) (k : Ky) : Option Int :=
  match valC s.wr k with
  | some (v, er) => if er then none else some v
  | none => valOf P.vals k
def wrP (s : Mc) (c : Ch) : Mc := { s with wr := s.wr ++ [c] }
/-- The place of the instruction at an address. -/
def plP (L : List Ins) (a : Int) : Nat := L.findIdx fun x => decide (x.ad = a)
def doP (P : Tp) (x : Ins) (s : Mc) : Mc × Int :=
  if x.op = 0 then ({ s with pc := P.L.length }, 0)
  else if x.op = 1 then (setR s x.a x.im, 0)
  else if x.op = 2 then (setR s x.a (P.ar.getD x.im.toNat 0), 0)
  else if x.op = 7 then (setR s x.a (rgA s x.b), 0)
  else if x.op = 3 then (setR s x.a ((valP P s (P.rs.getD x.im.toNat (0, 0))).getD 0), 0)
  else if x.op = 4 then (setR s x.a (fl (valP P s (P.rs.getD x.im.toNat (0, 0))).isSome), 0)
  else if x.op = 5 then (wrP s (P.ws.getD x.im.toNat (0, 0), (rgA s x.a, false)), 0)
  else if x.op = 6 then (wrP s (P.ws.getD x.im.toNat (0, 0), (0, true)), 0)
  else if x.op = 19 then (setR s x.a (narP (rgA s x.a) x.im), 0)
  else if x.op = 22 then ({ s with pc := plP P.L x.im }, 0)
  else if x.op = 23 then (if rgA s x.a ≠ 0 then { s with pc := plP P.L x.im } else s, 0)
  else if x.op = 24 then (if s.out.length = 8 then (s, 5) else ({ s with out := s.out ++ [rgA s x.a] }, 0))
  else if x.op = 25 then (s, 100 + x.im)
  else if x.op = 26 then (if (x.im, rgA s x.b) ∈ P.rs then (setR s x.a ((valP P s (x.im, rgA s x.b)).getD 0), 0) else (s, 4))
  else if x.op = 27 then (if (x.im, rgA s x.b) ∈ P.ws then (wrP s ((x.im, rgA s x.b), (rgA s x.a, false)), 0) else (s, 4))
  else (setR s x.a (binP x.op (rgA s x.a) (rgA s x.b)).1, (binP x.op (rgA s x.a) (rgA s x.b)).2)

/-! ### its memory -/
theorem rtO : RT nC 1 32 2 8 := ⟨nC_len, nC_one, by decide, Tryd.underlying32, by
  obtain ⟨i, hi, hz, hs1, hb⟩ := info_parts (show (Tryd.prog.info? 2).map (fun i => (i.zero, i.size, i.bytes)) = some (some (.int .i64 0), 1, 8) by kernel_rfl)
  exact ⟨i, _, hi, hz, hs1, hb, rfl⟩⟩
structure RunIs (w0 : World) (b : Nat) (E : Env) (P : Tp) (s : Mc) (ov : Value) (w : World) : Prop where
  bel : Below w0.heap.size w0 w
  blk : w.heap[b]? = some (.cells (rC E s ov) 82)
  out : w.ownsRow w0.heap.size 2 1 ov s.out.length (s.out.flatMap nC)
  wmap : MapAt w E.mw ((ddD s.wr).map chE)
  rmap : MapAt w E.mr (P.vals.map prE)
  lst : w.ownsRow w0.heap.size 89 5 E.lv P.L.length (P.L.flatMap iC)
  lb : w0.heap.size ≤ b
  lw : w0.heap.size ≤ E.mw
  ne : E.mw ≠ E.mr
  rgl : s.rg.length = 8
  oks : ∀ c ∈ s.wr, OkK c.1 ∧ (c.2.2 = true → c.2.1 = 0)
structure RunOf (w0 : World) (E : Env) (P : Tp) : Prop where
  pll : E.pl.length = 512
  ars : SeesL nC 1 w0 E.av P.ar
  rss : SeesL kC 2 w0 E.rv P.rs
  wss : SeesL kC 2 w0 E.wv P.ws
  okr : ∀ k ∈ P.rs, OkK k
  okw : ∀ k ∈ P.ws, OkK k
  okv : ∀ k ∈ keysOf P.vals, OkK k
  nd : (keysOf P.vals).Nodup
section
variable {w0 w w' : World} {b : Nat} {E : Env} {P : Tp} {s : Mc} {ov : Value}
theorem RunIs.lt (h : RunIs w0 b E P s ov w) : b < w.heap.size := (Array.getElem?_eq_some_iff.1 h.blk).1
theorem RunIs.grew (h : RunIs w0 b E P s ov w) (hb : Below w.heap.size w w') : RunIs w0 b E P s ov w' :=
  { h with bel := h.bel.trans (hb.mono h.bel.size), blk := (hb.block _ h.lt).trans h.blk, out := own_below h.out hb, wmap := h.wmap.below hb, rmap := h.rmap.below hb, lst := own_below h.lst hb }
/-- A row of another type stays when another block turns. -/
theorem own_apart {base e size n : Nat} {v : Value} {xs : List Value} (h : w.ownsRow base e size v n xs) {g : Nat} {cs : Array Value} {T : TypeId} (hg : w.heap[g]? = some (.cells cs T)) (hT : e ≠ T) (h1 : ∀ j, j ≠ g → w'.heap[j]? = w.heap[j]?) : w'.ownsRow base e size v n xs := by
  refine ⟨h.1, ?_⟩
  rcases h.2 with hn | ⟨g', cap, cur, hv, hb, hh, r⟩
  · exact .inl hn
  · refine .inr ⟨g', cap, cur, hv, hb, (h1 g' fun e1 => ?_).trans hh, r⟩
    subst e1
    rw [hg] at hh
    simp only [Option.some.injEq, Obj.cells.injEq] at hh
    exact hT hh.2.1.symm
/-- A cell of the run turned, nothing else. -/
theorem RunIs.store (h : RunIs w0 b E P s ov w) {i : Nat} {v : Value} {s' : Mc} {ov' : Value} (hC : (rC E s ov).setIfInBounds i v = rC E s' ov') (ho : w.ownsRow w0.heap.size 2 1 ov' s'.out.length (s'.out.flatMap nC)) (hw : s'.wr = s.wr) (hr : s'.rg.length = 8) : RunIs w0 b E P s' ov' (w.setCell ⟨b, i, none⟩ v) :=
  have ho1 : ∀ j, j ≠ b → (w.setCell ⟨b, i, none⟩ v).heap[j]? = w.heap[j]? := fun j hj => heap_setCell_other _ _ _ _ hj
  { bel := h.bel.trans ⟨rfl, rfl, rfl, by simp [World.setCell], fun j hj => ho1 j (by have := h.lb; omega)⟩
    blk := by rw [heap_setCell_same w b i _ 82 v h.blk, hC]
    out := own_apart ho h.blk (by decide) ho1
    wmap := by rw [hw]; exact h.wmap.keep (ho1 _ (Ne.symm (h.wmap.apart h.blk)))
    rmap := h.rmap.keep (ho1 _ (Ne.symm (h.rmap.apart h.blk)))
    lst := own_apart h.lst h.blk (by decide) ho1
    lb := h.lb
    lw := h.lw
    ne := h.ne
    rgl := hr
    oks := by rw [hw]; exact h.oks }
/-- A change written. -/
theorem RunIs.wrote (h : RunIs w0 b E P s ov w) (c : Ch) (hk : OkK c.1) (hc : c.2.2 = true → c.2.1 = 0) :
    ∃ y, (Instr.mapUpdate 67 (.map (some E.mw)) (.agg #[.int .i32 c.1.1, .int .i64 c.1.2]) (.agg #[.int .i32 c.1.1, .int .i64 c.1.2, .int .i64 c.2.1, .bool c.2.2])).run Tryd.prog w = .ok () y ∧ RunIs w0 b E P (wrP s c) ov y := by
  have hs := ddD_spec s.wr
  have hokD : ∀ q ∈ (ddD s.wr).map chE, OkK q.1 := fun q hq => by
    obtain ⟨d, hd, rfl⟩ := List.mem_map.1 hq
    have hm : ∀ (l : List Ch) (d : Ch), d ∈ ddD l → ∃ c ∈ l, c.1 = d.1 := fun l d => by
      revert d
      refine snocInd (P := fun l => ∀ d, d ∈ ddD l → ∃ c ∈ l, c.1 = d.1) (fun d hd => by simp [ddD] at hd) (fun l c ih d hd => ?_) l
      rw [ddD_snoc, addD_mem (ddD_spec l).1] at hd
      rcases hd with rfl | ⟨hd, _⟩
      · exact ⟨_, by simp, rfl⟩
      · obtain ⟨c', hc', e⟩ := ih d hd
        exact ⟨c', by simp [hc'], e⟩
    obtain ⟨c', hc', e⟩ := hm s.wr d hd
    show OkK d.1
    rw [← e]
    exact (h.oks c' hc').1
  obtain ⟨y, h1, h2, h3, h4, h5, h6, h7⟩ := map_put (Tryd.underlying67) h.wmap hokD (by rw [chE_keys]; exact hs.1) hk (chE c).2
  refine ⟨y, h1, ?_⟩
  have hbw : w.heap[b]? = some _ := h.blk
  have hwb : b ≠ E.mw := h.wmap.apart hbw
  exact
  { bel := h.bel.trans (below_put h.lw h3 h4 h5 h6 h7)
    blk := (h3 b hwb).trans h.blk
    out := own_put h.wmap h3 h.out
    wmap := by
      have e : (ddD (wrP s c).wr).map chE = addV ((ddD s.wr).map chE) (chE c) := by
        show (ddD (s.wr ++ [c])).map chE = _
        rw [addV_chE, ddD_snoc]
      rw [e]
      exact h2
    rmap := h.rmap.keep (h3 _ (Ne.symm h.ne))
    lst := own_put h.wmap h3 h.lst
    lb := h.lb
    lw := h.lw
    ne := h.ne
    rgl := h.rgl
    oks := fun d hd => by
      rcases List.mem_append.1 hd with hd | hd
      · exact h.oks d hd
      · obtain rfl := List.mem_singleton.1 hd
        exact ⟨hk, hc⟩ }
end
end Go.Proofs.YtldapckooohigaaDoor

/- value, write, answer. -/
namespace Go.Proofs.YtldapckooohigaaDoor
open Go.RowKit
set_option maxRecDepth 100000

theorem Below.drewN {B : Nat} {a w : World} (h : Below B a w) (n : Nat) : Below B a (w.drewN n) := ⟨h.os, h.tape, h.output, h.size, h.block⟩
theorem value_yes (b mw : Nat) (k0 k1 v : Int) (er : Bool) (w : World) (hb : w.cell? ⟨b, 530, none⟩ = some (.map (some mw))) (hbl : b < w.heap.size)
   (hl : ∀ z, Below w.heap.size w z → (Instr.lookup 67 (.map (some mw)) (.agg #[.int .i32 k0, .int .i64 k1]) true).run Tryd.prog z = .ok (.tuple #[.agg #[.int .i32 k0, .int .i64 k1, .int .i64 v, .bool er], .bool true]) z) :
   Calls Tryd.prog 62 #[.pointer (some ⟨b, 0, none⟩), .agg #[.int .i32 k0, .int .i64 k1]] w fun e w' => e = .returned (.tuple #[.int .i64 v, .bool !er]) ∧ Below w.heap.size w w' := by
  have h1 := hl (w.alloc (.cells #[.int .i32 k0, .int .i64 k1] 38)).drew (below_box _).drew
  have h2 := hl ((w.alloc (.cells #[.int .i32 k0, .int .i64 k1] 38)).alloc (.cells #[.int .i32 0, .int .i64 0, .int .i64 0, .bool false] 40)).drew (((below_box _).alloc (by simp) _).drew)
  have hb1 : (w.alloc (.cells #[.int .i32 k0, .int .i64 k1] 38)).cell? ⟨b, 530, none⟩ = some (.map (some mw)) := ((below_box _).cell hbl).trans hb
  have HBL : Hid (Below w.heap.size w ((w.alloc (.cells #[.int .i32 k0, .int .i64 k1] 38)).alloc (.cells #[.int .i32 k0, .int .i64 k1, .int .i64 v, .bool er] 40))) := hide ((below_box _).alloc (by simp) _)
  clear hl hb
  go_enter Tryd.func62, Tryd.ntmps62
  go_wp2
  go_region
  all_goals
    go_wp2
    go_quiet (fail)
    go_wp2
    exact bodyPost_ret (v := .tuple #[.int .i64 v, .bool !er]) (by simp [results, Tryd.results62, go_sem]) rfl ⟨rfl, Below.drewN (unhide HBL).drew _⟩
theorem value_no (b mw mr : Nat) (k0 k1 v : Int) (er : Bool) (w : World) (hb : w.cell? ⟨b, 530, none⟩ = some (.map (some mw))) (hr : w.cell? ⟨b, 529, none⟩ = some (.map (some mr))) (hbl : b < w.heap.size)
   (hl : ∀ z, Below w.heap.size w z → (Instr.lookup 67 (.map (some mw)) (.agg #[.int .i32 k0, .int .i64 k1]) true).run Tryd.prog z = .ok (.tuple #[.agg #[.int .i32 0, .int .i64 0, .int .i64 0, .bool false], .bool false]) z)
   (hl2 : ∀ z, Below w.heap.size w z → (Instr.lookup 69 (.map (some mr)) (.agg #[.int .i32 k0, .int .i64 k1]) true).run Tryd.prog z = .ok (.tuple #[.int .i64 v, .bool er]) z) :
   Calls Tryd.prog 62 #[.pointer (some ⟨b, 0, none⟩), .agg #[.int .i32 k0, .int .i64 k1]] w fun e w' => e = .returned (.tuple #[.int .i64 v, .bool er]) ∧ Below w.heap.size w w' := by
  have h1 := hl (w.alloc (.cells #[.int .i32 k0, .int .i64 k1] 38)).drew (below_box _).drew
  have h2 := hl ((w.alloc (.cells #[.int .i32 k0, .int .i64 k1] 38)).alloc (.cells #[.int .i32 0, .int .i64 0, .int .i64 0, .bool false] 40)).drew (((below_box _).alloc (by simp) _).drew)
  have h3 := hl2 ((w.alloc (.cells #[.int .i32 k0, .int .i64 k1] 38)).alloc (.cells #[.int .i32 0, .int .i64 0, .int .i64 0, .bool false] 40)).drew.drew (((below_box _).alloc (by simp) _).drew.drew)
  have hb1 : (w.alloc (.cells #[.int .i32 k0, .int .i64 k1] 38)).cell? ⟨b, 530, none⟩ = some (.map (some mw)) := ((below_box _).cell hbl).trans hb
  have hb2 : ((w.alloc (.cells #[.int .i32 k0, .int .i64 k1] 38)).alloc (.cells #[.int .i32 0, .int .i64 0, .int .i64 0, .bool false] 40)).cell? ⟨b, 529, none⟩ = some (.map (some mr)) := (((below_box _).alloc (by simp) _).cell hbl).trans hr
  have HBL : Hid (Below w.heap.size w ((w.alloc (.cells #[.int .i32 k0, .int .i64 k1] 38)).alloc (.cells #[.int .i32 0, .int .i64 0, .int .i64 0, .bool false] 40))) := hide ((below_box _).alloc (by simp) _)
  clear hl hb hl2 hr
  go_enter Tryd.func62, Tryd.ntmps62
  go_wp2
  go_region
  all_goals
    go_wp2
    go_region
    go_wp2
    exact bodyPost_ret (v := .tuple #[.int .i64 v, .bool er]) (by simp [results, Tryd.results62, go_sem]) rfl ⟨rfl, (unhide HBL).drew.drew⟩
theorem write_at (b mw : Nat) (k0 k1 v : Int) (er : Bool) (w y : World) (hb : w.cell? ⟨b, 530, none⟩ = some (.map (some mw))) (hbl : b < w.heap.size)
   (hl : (Instr.mapUpdate 67 (.map (some mw)) (.agg #[.int .i32 k0, .int .i64 k1]) (.agg #[.int .i32 k0, .int .i64 k1, .int .i64 v, .bool er])).run Tryd.prog (w.alloc (.cells #[.int .i32 k0, .int .i64 k1, .int .i64 v, .bool er] 40)).drew = .ok () y) :
   Calls Tryd.prog 63 #[.pointer (some ⟨b, 0, none⟩), .agg #[.int .i32 k0, .int .i64 k1, .int .i64 v, .bool er]] w fun e w' => e = .returned (.tuple #[]) ∧ w' = y := by
  have hb1 : (w.alloc (.cells #[.int .i32 k0, .int .i64 k1, .int .i64 v, .bool er] 40)).cell? ⟨b, 530, none⟩ = some (.map (some mw)) := ((below_box _).cell hbl).trans hb
  clear hb
  go_enter Tryd.func63, Tryd.ntmps63
  go_wp2
  go_region
  go_end0
  exact ⟨rfl, rfl⟩
end Go.Proofs.YtldapckooohigaaDoor

/- value, write, answer of a run. -/
namespace Go.Proofs.YtldapckooohigaaDoor
open Go.RowKit
set_option maxRecDepth 100000

theorem valC_key : ∀ (l : List Ch) (k : Ky) (u : Int × Bool), valC l k = some u → ∃ c ∈ l, c.1 = k ∧ c.2 = u := fun l k u => by
  refine snocInd (P := fun l => valC l k = some u → ∃ c ∈ l, c.1 = k ∧ c.2 = u) (fun h => by simp [valC] at h) (fun l c ih h => ?_) l
  rw [valC_snoc] at h
  by_cases e : c.1 = k
  · rw [if_pos e] at h
    exact ⟨c, by simp, e, Option.some.inj h⟩
  · rw [if_neg e] at h
    obtain ⟨c', hc', e'⟩ := ih h
    exact ⟨c', by simp [hc'], e'⟩
theorem ddD_sub {l : List Ch} {d : Ch} (h : d ∈ ddD l) : d ∈ l := by
  obtain ⟨c, hc, e1, e2⟩ := valC_key l d.1 d.2 (((ddD_spec l).2.1 d.1 d.2).1 h)
  have : c = d := Prod.ext e1 e2
  exact this ▸ hc
theorem valC_none {l : List Ch} {k : Ky} (h : valC l k = none) : k ∉ keysD (ddD l) := fun hk => by
  obtain ⟨c, hc, e⟩ := List.mem_map.1 hk
  have := ((ddD_spec l).2.1 c.1 c.2).1 hc
  rw [e, h] at this
  cases this
section
variable {w0 w : World} {b : Nat} {E : Env} {P : Tp} {s : Mc} {ov : Value}
theorem RunIs.okD (h : RunIs w0 b E P s ov w) : ∀ q ∈ (ddD s.wr).map chE, OkK q.1 := fun q hq => by
  obtain ⟨d, hd, rfl⟩ := List.mem_map.1 hq
  exact (h.oks d (ddD_sub hd)).1
theorem RunOf.okR (ho : RunOf w0 E P) : ∀ q ∈ P.vals.map prE, OkK q.1 := fun q hq => by
  obtain ⟨d, hd, rfl⟩ := List.mem_map.1 hq
  exact ho.okv _ (List.mem_map.2 ⟨d, hd, rfl⟩)
theorem RunIs.cell (h : RunIs w0 b E P s ov w) (i : Nat) : w.cell? ⟨b, i, none⟩ = (rC E s ov)[i]? := cell_at h.blk
theorem valOf_mem {l : List Pr} (hn : (keysOf l).Nodup) (k : Ky) (u : Int) : valOf l k = some u ↔ (k, u) ∈ l := by
  have key : ∀ (l : List Pr), (keysOf l).Nodup → ∀ k u, (valOf l k = some u ↔ (k, u) ∈ l) := fun l => by
    refine snocInd (P := fun l => (keysOf l).Nodup → ∀ k u, (valOf l k = some u ↔ (k, u) ∈ l)) (fun _ k u => by simp [valOf]) (fun l p ih hn k u => ?_) l
    have h1 : (keysOf l ++ [p.1]).Nodup := by simpa [keysOf] using hn
    obtain ⟨h2, _, h3⟩ := List.nodup_append.1 h1
    rw [valOf_snoc, List.mem_append, List.mem_singleton, ← ih h2 k u]
    by_cases e : p.1 = k
    · rw [if_pos e]
      constructor
      · intro c
        right
        obtain ⟨p1, p2⟩ := p
        simp only [Option.some.injEq] at c e
        rw [← e, ← c]
      · rintro (c | c)
        · have hm := (ih h2 k u).1 c
          exact absurd e.symm (h3 k (List.mem_map.2 ⟨_, hm, rfl⟩) p.1 (List.mem_singleton_self _))
        · rw [← c]
    · rw [if_neg e]
      constructor
      · exact .inl
      · rintro (c | c)
        · exact c
        · exact absurd (by rw [← c]) e
  exact key l hn k u
theorem value_any (h : RunIs w0 b E P s ov w) (ho : RunOf w0 E P) (k : Ky) (hk : OkK k) :
    Calls Tryd.prog 62 #[.pointer (some ⟨b, 0, none⟩), .agg #[.int .i32 k.1, .int .i64 k.2]] w fun e w' => e = .returned (.tuple #[.int .i64 ((valP P s k).getD 0), .bool (valP P s k).isSome]) ∧ Below w.heap.size w w' := by
  have c530 : w.cell? ⟨b, 530, none⟩ = some (.map (some E.mw)) := (h.cell 530).trans (rC_end ho.pll h.rgl (by omega))
  have c529 : w.cell? ⟨b, 529, none⟩ = some (.map (some E.mr)) := (h.cell 529).trans (rC_end ho.pll h.rgl (by omega))
  have hsp := ddD_spec s.wr
  rcases hv : valC s.wr k with _ | ⟨v, er⟩
  · have e : valP P s k = valOf P.vals k := by unfold valP; rw [hv]
    rw [e]
    refine value_no b E.mw E.mr k.1 k.2 ((valOf P.vals k).getD 0) (valOf P.vals k).isSome w c530 c529 h.lt (fun z hz => ?_) (fun z hz => ?_)
    · exact look_no Tryd.underlying67 (z := .agg #[.int .i32 0, .int .i64 0, .int .i64 0, .bool false]) Tryd.zeroValue40 (h.wmap.below hz) h.okD hk fun q hq e1 => by
        obtain ⟨d, hd, rfl⟩ := List.mem_map.1 hq
        exact valC_none hv (e1 ▸ List.mem_map.2 ⟨d, hd, rfl⟩)
    · rcases hr : valOf P.vals k with _ | u
      · exact look_no Tryd.underlying69 (z := .int .i64 0) Tryd.zeroValue2 (h.rmap.below hz) ho.okR hk fun q hq e1 => by
          obtain ⟨d, hd, rfl⟩ := List.mem_map.1 hq
          have := (valOf_mem ho.nd d.1 d.2).2 hd
          rw [show d.1 = k from e1, hr] at this
          cases this
      · exact look_has Tryd.underlying69 (h.rmap.below hz) ho.okR (by rw [prE_keys]; exact ho.nd) (k := k) (u := .int .i64 u) (List.mem_map.2 ⟨(k, u), (valOf_mem ho.nd k u).1 hr, rfl⟩)
  · have hin : (k, (v, er)) ∈ ddD s.wr := (hsp.2.1 k (v, er)).2 hv
    have hoks := h.oks _ (ddD_sub hin)
    have e1 : (valP P s k).getD 0 = v := by
      unfold valP
      rw [hv]
      cases er
      · rfl
      · exact (hoks.2 rfl).symm
    have e2 : (valP P s k).isSome = !er := by
      unfold valP
      rw [hv]
      cases er <;> rfl
    rw [e1, e2]
    exact value_yes b E.mw k.1 k.2 v er w c530 h.lt fun z hz => look_has Tryd.underlying67 (h.wmap.below hz) h.okD (by rw [chE_keys]; exact hsp.1) (k := k) (List.mem_map.2 ⟨_, hin, rfl⟩)
theorem write_any (h : RunIs w0 b E P s ov w) (hp : E.pl.length = 512) (c : Ch) (hk : OkK c.1) (hc : c.2.2 = true → c.2.1 = 0) :
    Calls Tryd.prog 63 #[.pointer (some ⟨b, 0, none⟩), .agg #[.int .i32 c.1.1, .int .i64 c.1.2, .int .i64 c.2.1, .bool c.2.2]] w fun e w' => e = .returned (.tuple #[]) ∧ RunIs w0 b E P (wrP s c) ov w' := by
  have c530 : w.cell? ⟨b, 530, none⟩ = some (.map (some E.mw)) := (h.cell 530).trans (rC_end hp h.rgl (by omega))
  have h1 := h.grew (((below_box (.cells #[.int .i32 c.1.1, .int .i64 c.1.2, .int .i64 c.2.1, .bool c.2.2] 40)).drew : Below w.heap.size w _))
  obtain ⟨y, hy, hr⟩ := h1.wrote c hk hc
  exact (write_at b E.mw _ _ _ _ w y c530 h.lt hy).mono fun e w' ⟨h1, h2⟩ => ⟨h1, h2 ▸ hr⟩
end
theorem RT.appB {α : Type} {c : α → List Value} {k T e by_ : Nat} (R : RT c k T e by_) {w : World} {base : Nat} {v v2 : Value} {n : Nat} {l l2 : List α} (ty : TypeId) (hown : w.ownsRow base e k v n (l.flatMap c)) (hs : SeesL c k w v2 l2) (hm : n + l2.length ≤ 9223372036854775807) (hl : (n + l2.length) * by_ ≤ 140737488355328) (hbase : base ≤ w.heap.size) :
    ∃ ao cap w', (Builtin.append_ #[T, T] ty #[v, v2]).run Tryd.prog w = .ok (.slice ao (n + l2.length) cap) w' ∧ w'.ownsRow base e k (.slice ao (n + l2.length) cap) (n + l2.length) ((l ++ l2).flatMap c) ∧ Below base w w' ∧ ∀ (j : Nat) (o : Obj), w.heap[j]? = some o → (∀ cs : Array Value, o ≠ Obj.cells cs e) → w'.heap[j]? = some o := by
  obtain ⟨i, z, hi, hz, hs1, hb, hzs⟩ := R.info
  obtain ⟨v', w', h1, h2, h3⟩ := run_append_L R.len R.one base T ty e i z by_ R.und hi hz hs1 hb hzs R.pos hown hs (by unfold maxLen; omega) hl hbase
  obtain ⟨ao, cap, hv⟩ := own_shape h2
  subst hv
  rw [List.flatMap_append]
  refine ⟨ao, cap, w', h1, h2, (Below.refl _ _).grown h3 hbase (own_block_le hown), fun j o hj ht => ?_⟩
  rw [h3.block j (Array.getElem?_eq_some_iff.1 hj).1 ?_]
  · exact hj
  · intro hk
    rcases hown.2 with ⟨rfl, _⟩ | ⟨g, cap', cur', rfl, _, hgg, _⟩
    · simp [Value.ownBlock] at hk
    · simp only [Value.ownBlock, Option.some.injEq] at hk
      subst hk
      rw [hgg] at hj
      exact ht _ (Option.some.inj hj).symm
theorem own_other {w w' : World} {base e size n : Nat} {v : Value} {xs : List Value} (h : w.ownsRow base e size v n xs) {T : TypeId} (hT : e ≠ T) (h1 : ∀ (j : Nat) (o : Obj), w.heap[j]? = some o → (∀ cs : Array Value, o ≠ Obj.cells cs T) → w'.heap[j]? = some o) : w'.ownsRow base e size v n xs := by
  refine ⟨h.1, ?_⟩
  rcases h.2 with hn | ⟨g', cap, cur, hv, hb, hh, r⟩
  · exact .inl hn
  · refine .inr ⟨g', cap, cur, hv, hb, h1 g' _ hh fun cs e1 => ?_, r⟩
    simp only [Obj.cells.injEq] at e1
    exact hT e1.2.1
theorem sees_oneN (w : World) (x : Int) : SeesL nC 1 (w.alloc (.cells #[.int .i64 x] 2)) (.slice (some ⟨w.heap.size, 0, none⟩) 1 1) [x] := by
  refine ⟨_, 1, w.heap.size, 0, rfl, by simp, by simp, (fun h => by cases h), fun _ => rfl, fun t y hy j hj => ?_⟩
  obtain ⟨ht, rfl⟩ := List.getElem?_eq_some_iff.1 hy
  obtain rfl : t = 0 := by simpa using ht
  obtain rfl : j = 0 := by omega
  rw [cell_at (heap_alloc_new w _)]
  rfl
section
variable {w0 w : World} {b : Nat} {E : Env} {P : Tp} {s : Mc} {ov : Value}
/-- An answer more. -/
theorem RunIs.more (h : RunIs w0 b E P s ov w) (hp : E.pl.length = 512) (x : Int) (hl : s.out.length ≤ 8) :
    ∃ ao cap w2, (Builtin.append_ #[32, 32] 32 #[ov, .slice (some ⟨w.heap.size, 0, none⟩) 1 1]).run Tryd.prog (w.alloc (.cells #[.int .i64 x] 2)) = .ok (.slice ao (s.out.length + 1) cap) w2 ∧ w2.cell? ⟨b, 531, none⟩ = some ov ∧ w2.frozen? ⟨b, 531, none⟩ = false ∧
      RunIs w0 b E P { s with out := s.out ++ [x] } (.slice ao (s.out.length + 1) cap) (w2.setCell ⟨b, 531, none⟩ (.slice ao (s.out.length + 1) cap)) := by
  have hb0 := h.bel.size
  have h1 := h.grew (below_box (.cells #[.int .i64 x] 2))
  obtain ⟨ao, cap, w2, r, o, bl, oth⟩ := rtO.appB (l := s.out) 32 h1.out (sees_oneN w x) (by simp; omega) (by simp; omega) (by simp; omega)
  have r' : (Builtin.append_ #[32, 32] 32 #[ov, .slice (some ⟨w.heap.size, 0, none⟩) 1 1]).run Tryd.prog (w.alloc (.cells #[.int .i64 x] 2)) = .ok (.slice ao (s.out.length + 1) cap) w2 := r
  have hb2 : w2.heap[b]? = some (.cells (rC E s ov) 82) := oth b _ h1.blk fun cs e1 => by simp only [Obj.cells.injEq] at e1; exact absurd e1.2.1 (by decide)
  have hmap : ∀ {mb : Nat} {l : List (Ky × Value)}, MapAt (w.alloc (.cells #[.int .i64 x] 2)) mb l → MapAt w2 mb l := fun {mb l} ⟨es, c, m1, m2⟩ => ⟨es, c, oth mb _ m1 (fun cs e1 => by cases e1), m2⟩
  have c531 : w2.cell? ⟨b, 531, none⟩ = some ov := (cell_at hb2).trans (rC_end hp h.rgl (by omega))
  have ho1 : ∀ j, j ≠ b → (w2.setCell ⟨b, 531, none⟩ (.slice ao (s.out.length + 1) cap)).heap[j]? = w2.heap[j]? := fun j hj => heap_setCell_other _ _ _ _ hj
  have hm2 := hmap h1.wmap
  have hr2 := hmap h1.rmap
  have hl2 := own_other h1.lst (T := 2) (by decide) oth
  have ho2 : w2.ownsRow w0.heap.size 2 1 (.slice ao (s.out.length + 1) cap) (s.out ++ [x]).length ((s.out ++ [x]).flatMap nC) := by rw [List.length_append]; exact o
  refine ⟨ao, cap, w2, r', c531, frozen_of_heap hb2, ?_⟩
  exact
  { bel := (h1.bel.trans bl).trans ⟨rfl, rfl, rfl, by simp [World.setCell], fun j hj => ho1 j (by have := h.lb; omega)⟩
    blk := by rw [heap_setCell_same w2 b 531 _ 82 _ hb2, rC_setOut hp h.rgl]
    out := own_apart ho2 hb2 (by decide) ho1
    wmap := hm2.keep (ho1 _ (Ne.symm (hm2.apart hb2)))
    rmap := hr2.keep (ho1 _ (Ne.symm (hr2.apart hb2)))
    lst := own_apart hl2 hb2 (by decide) ho1
    lb := h.lb
    lw := h.lw
    ne := h.ne
    rgl := h.rgl
    oks := h.oks }
theorem answer_any (h : RunIs w0 b E P s ov w) (hp : E.pl.length = 512) (x : Int) (hl : s.out.length ≤ 8) :
    Calls Tryd.prog 64 #[.pointer (some ⟨b, 0, none⟩), .int .i64 x] w fun e w' => e = .returned (.int .i64 (if s.out.length = 8 then 5 else 0)) ∧ ∃ ov', RunIs w0 b E P (if s.out.length = 8 then s else { s with out := s.out ++ [x] }) ov' w' := by
  have c531 : w.cell? ⟨b, 531, none⟩ = some ov := (h.cell 531).trans (rC_end hp h.rgl (by omega))
  obtain ⟨ao, cap, hov⟩ := own_shape h.out
  obtain ⟨ao2, cap2, w2, r, c2, f2, hI⟩ := h.more hp x hl
  rw [hov] at c531 c2 r
  by_cases h8 : s.out.length = 8
  · rw [if_pos h8, if_pos h8]
    have hd : ((s.out.length : Int) == 8) = true := by simp [h8]
    have HI := hide h
    clear hI h r c2 f2 hl
    go_enter Tryd.func64, Tryd.ntmps64
    go_wp2
    go_ret
    exact ⟨rfl, _, unhide HI⟩
  · rw [if_neg h8, if_neg h8]
    have hd : ((s.out.length : Int) == 8) = false := by simp; omega
    have HI := hide hI
    have HR := hide r
    clear hI h r hl
    go_enter Tryd.func64, Tryd.ntmps64
    go_wp2_with ((with_reducible show wpList _ _ _ (⟨some 18, _, _, _, _, _⟩ :: _) _ _); refine wpList_append_wanted (by rfl) _ _ 32 rfl rfl rfl (unhide HR) ?_)
    go_ret
    exact ⟨rfl, _, unhide HI⟩
end
end Go.Proofs.YtldapckooohigaaDoor
