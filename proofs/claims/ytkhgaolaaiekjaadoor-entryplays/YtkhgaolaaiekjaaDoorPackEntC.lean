/-
  Package entry: the library's TrimRight at one zero; what a round of read takes.
  append of a row, nil too, onto a row of one's own; nothing of the program is used here.
  Package entry: read.
  Package entry: Decode.
-/
import Derived.Test.YtkhgaolaaiekjaaDoorEntN
import Derived.Test.YtkhgaolaaiekjaaDoorRowIs
import Derived.Deep.RegionLaw
import Derived.Deep.LoopGhost
namespace Go.Proofs.YtkhgaolaaiekjaaDoor
open Go.RowKit Go.Lib
set_option maxRecDepth 100000

theorem trimZ_all {bs : List UInt8} {k : Nat} (hk : k < bs.length) (h : bs[k] ≠ 0) (e : trimZ (bs.take (k + 1)) = trimZ bs) : trimZ bs = bs.take (k + 1) := by
  rw [← e, trimZ_take hk, if_neg h]
set_option maxHeartbeats 1000000 in
theorem trimb_any (v : Value) (bs : List UInt8) (lo hi : Nat) (w : World) (hv : SlIs w lo hi v bs) :
    Calls Tryd.prog 54 #[v, .int .u8 0] w fun e w' => ∃ A c, e = .returned (.slice A (trimZ bs).length c) ∧ SlIs w lo hi (.slice A (trimZ bs).length c) (trimZ bs) ∧ ∃ q, w' = w.drewN q := by
  have hv' := hv
  obtain ⟨A, c, rfl, hc, hm, hr⟩ := hv
  have hcm : c ≤ 9223372036854775807 := by simpa [maxLen] using hm
  have RD : Hid (Rd w lo hi A bs) := Lib.hid hr
  clear hr hv'
  have FIN : Hid (∀ k, k ≤ bs.length → trimZ bs = bs.take k → k = (trimZ bs).length ∧ SlIs w lo hi (.slice A (trimZ bs).length c) (trimZ bs)) := Lib.hid (fun k hk e => by
    have hl : (trimZ bs).length = k := by rw [e, List.length_take]; omega
    refine ⟨hl.symm, A, c, rfl, by omega, hm, ?_⟩
    rw [e]
    exact RD.out.take k)
  go_enter Tryd.func54, Tryd.ntmps54
  go_wp2
  go_loopw [0] (fun s wr => ∃ k q : Nat, k ≤ bs.length ∧ s = .slice A k c ∧ Hid (trimZ (bs.take k) = trimZ bs) ∧ wr = w.drewN q) (fun s _ => lenV s)
  case atStart => exact ⟨bs.length, 0, Nat.le_refl _, rfl, Lib.hid (by rw [List.take_length]), rfl⟩
  case round =>
    obtain ⟨k, q, hk, rfl, hrel, rfl⟩ := hrel
    by_cases h0 : k = 0
    · subst h0
      have e0 : trimZ bs = bs.take 0 := by
        rw [← hrel.out]
        rfl
      obtain ⟨e1, hs⟩ := FIN.out 0 (Nat.zero_le _) e0
      have HS := Lib.hid hs
      have HE := Lib.hid e1
      clear hrel hs e0 e1 FIN
      go_wp2
      go_ret
      exact ⟨A, c, by rw [← HE.out]; rfl, HS.out, _, rfl⟩
    · obtain ⟨m, rfl⟩ : ∃ m, k = m + 1 := ⟨k - 1, by omega⟩
      have hmb : m < bs.length := by omega
      obtain ⟨ad, rfl, _, _, z0⟩ := RD.out.at hmb
      have i0 : (0 : Int) ≤ ((m + 1 : Nat) : Int) - 1 := by omega
      have i1 : ((m + 1 : Nat) : Int) - 1 < ((m + 1 : Nat) : Int) := by omega
      have i2 : ((m + 1 : Nat) : Int) - 1 ≤ (c : Int) := by omega
      have tn : (((m + 1 : Nat) : Int) - 1).toNat = m := by omega
      have wm : IntKind.i64.wrap (((m + 1 : Nat) : Int) - 1) = ((m + 1 : Nat) : Int) - 1 := IntWalk.i64_in _ (by omega)
      have dg : decide (0 < ((m + 1 : Nat) : Int)) = true := decide_eq_true (by omega)
      obtain ⟨y, hy⟩ : ∃ y, y = bs[m] := ⟨_, rfl⟩
      have TT := trimZ_take hmb
      rw [← hy] at z0 TT
      simp only [b8] at z0
      obtain ⟨K, hK⟩ : ∃ K : Nat, K = m + 1 := ⟨_, rfl⟩
      by_cases hz : y = 0
      · have R : Hid (trimZ (bs.take m) = trimZ bs) := Lib.hid (by rw [← hrel.out, TT, if_pos hz])
        have hb : ((y.toNat : Int) == 0) = true := by rw [hz]; rfl
        clear hrel hy TT hz FIN
        go_wp2
        go_roundw
        case rel => exact ⟨m, q, by omega, by first | rfl | (congr 1; omega), R, rfl⟩
        case measure => simp [lenV]
      · have hne : bs[m] ≠ 0 := by rw [← hy]; exact hz
        obtain ⟨e1, hs⟩ := FIN.out (m + 1) hk (trimZ_all hmb hne hrel.out)
        have HS := Lib.hid hs
        have HE := Lib.hid e1
        have hb : ((y.toNat : Int) == 0) = false := by
          have : ¬ y.toNat = 0 := fun h => hz (UInt8.toNat_inj.1 (by simpa using h))
          simpa using this
        clear hrel hy TT hz hne hs e1 FIN
        go_wp2
        go_ret
        exact ⟨_, c, by rw [← HE.out]; rfl, HS.out, _, rfl⟩
set_option maxHeartbeats 1000000 in
/-- The library's TrimRight at the text of one zero. -/
theorem trimright_any (v : Value) (bs : List UInt8) (lo hi : Nat) (w : World) (hv : SlIs w lo hi v bs) :
    Calls Tryd.prog 40 #[v, .string ⟨#[0]⟩] w fun e w' => ∃ A c, e = .returned (.slice A (trimZ bs).length c) ∧ SlIs w lo hi (.slice A (trimZ bs).length c) (trimZ bs) ∧ ∃ q, w' = w.drewN q := by
  have C := Lib.hid (trimb_any v bs lo hi w hv)
  by_cases h0 : bs = []
  · subst h0
    have HV := Lib.hid hv
    obtain ⟨A, c, rfl, _⟩ := hv
    clear C
    go_enter Tryd.func40, Tryd.ntmps40
    go_wp2
    go_ret
    exact ⟨A, c, rfl, HV.out, 0, rfl⟩
  · obtain ⟨A, c, rfl, _⟩ := hv
    have d0 : ((bs.length : Int) == 0) = false := by
      have : ¬ bs.length = 0 := fun h => h0 (List.eq_nil_of_length_eq_zero h)
      simpa using this
    clear h0
    go_enter Tryd.func40, Tryd.ntmps40
    go_wp2_with fail
    refine C.out.mono ?_
    rintro e w1 ⟨A2, c2, rfl, hs, q, rfl⟩
    have R := Lib.hid hs
    obtain ⟨N, hN⟩ : ∃ N, N = (trimZ bs).length := ⟨_, rfl⟩
    have HN := Lib.hid hN
    rw [← hN]
    clear hs C hN
    go_wp2
    go_ret
    exact ⟨A2, c2, by rw [← HN.out]; rfl, R.out, q, rfl⟩

/-- What a round of read takes: the number, the bytes, what is left, the error. -/
def rd1 (bs : List UInt8) : Nat × List UInt8 × Int := takeSt 4 bs 0
def rd2 (bs : List UInt8) : List UInt8 × List UInt8 × Int := rawSt 28 (rd1 bs).2.1 (rd1 bs).2.2
def rdX (bs : List UInt8) : En := ⟨trimZ (rd2 bs).1, (rd1 bs).1⟩
theorem rd_facts {bs : List UInt8} (h : bs ≠ []) :
    rowOf bs = rdX bs :: rowOf (rd2 bs).2.1 ∧ ((rd2 bs).2.2 = 0 ∨ (rd2 bs).2.1 = []) ∧ (rd2 bs).2.1.length < bs.length ∧ (rd1 bs).1 < 4294967296 := by
  have h0 : 0 < bs.length := by
    rcases Nat.eq_zero_or_pos bs.length with h1 | h1
    · exact absurd (List.eq_nil_of_length_eq_zero h1) h
    · exact h1
  by_cases h1 : bs.length < 4
  · have e1 : rd1 bs = (0, [], 4) := by
      unfold rd1 takeSt
      rw [if_neg (by decide), if_neg (by decide), if_pos (by omega)]
    have e2 : rd2 bs = ([], [], 4) := by
      unfold rd2 rawSt
      rw [e1, if_pos (by decide)]
    unfold rdX
    rw [e2, e1, rowOf_end h (by omega), rowOf_nil]
    refine ⟨?_, .inr rfl, h0, by decide⟩
    unfold endOf
    rw [if_pos h1]
    rfl
  · have e1 : rd1 bs = (le (bs.take 4), bs.drop 4, 0) := by
      unfold rd1 takeSt
      rw [if_neg (by decide), if_neg (by decide), if_neg (by omega)]
      rfl
    by_cases h2 : bs.length < 32
    · have e2 : rd2 bs = ([], [], 4) := by
        unfold rd2 rawSt
        rw [e1, if_neg (by simp), if_neg (by decide), if_pos (by simp only [List.length_drop]; omega)]
      unfold rdX
      rw [e2, e1, rowOf_end h h2, rowOf_nil]
      refine ⟨?_, .inr rfl, h0, le4⟩
      unfold endOf
      rw [if_neg h1]
      rfl
    · have e2 : rd2 bs = ((bs.drop 4).take 28, (bs.drop 4).drop 28, 0) := by
        unfold rd2 rawSt
        rw [e1, if_neg (by simp), if_neg (by decide), if_neg (by simp only [List.length_drop]; omega)]
        rfl
      unfold rdX
      rw [e2, e1, rowOf_more (by omega)]
      refine ⟨?_, .inl rfl, ?_, le4⟩
      · simp only [List.drop_drop]
        rfl
      · simp only [List.length_drop]
        omega

/-- Between two steps of read: the list's box, the list, the In. -/
structure RS (w : World) (lo b g : Nat) (V : Value) (m : List En) (rest : List UInt8) (er : Int) (wr : World) : Prop where
  box : Has wr b 22 #[V]
  own : wr.ownsRow w.heap.size 38 2 V m.length (enC m)
  far : ∀ i, V.ownBlock = some i → g < i
  inn : InAt wr lo g rest er
  low : b < lo
  base : w.heap.size ≤ b
  still : Still w wr
theorem Tryd.infoEntR : (Tryd.prog.info? 38).map (fun i => (i.zero, i.size, i.bytes)) = some (some (.agg #[.string ⟨#[]⟩, .int .u32 0]), 2, 24) := by kernel_rfl
section
variable {w wr w' : World} {lo b g : Nat} {V : Value} {m : List En} {rest : List UInt8} {er : Int}
theorem RS.keep (h : RS w lo b g V m rest er wr) (k : Still wr w') : RS w lo b g V m rest er w' :=
  ⟨k.has h.box, owns_only h.own k (fun _ _ h => h), h.far, h.inn.only k (fun _ _ _ h => h), h.low, h.base, h.still.trans k⟩
theorem RS.left (h : RS w lo b g V m rest er wr) : Calls Tryd.prog 38 #[.pointer (some ⟨g, 0, none⟩)] wr fun e w' => e = .returned (.int .i64 (rest.length : Int)) ∧ wr = w' := left_any lo g rest er wr h.inn
theorem RS.turn {rest' : List UInt8} {er' : Int} (h : RS w lo b g V m rest er wr) (hi : InAt w' lo g rest' er') (k : Only (fun i => i = g) wr w') : RS w lo b g V m rest' er' w' := by
  have hlt := h.inn.lt
  have hlow := h.low
  have hbase := h.base
  refine ⟨h.box.only k (by omega), owns_only h.own k (fun i hi e => ?_), h.far, hi, h.low, h.base, Only.trans h.still k (fun i hi e => by omega)⟩
  have := h.far i hi
  omega
theorem RS.take (h : RS w lo b g V m rest er wr) : Calls Tryd.prog 39 #[.pointer (some ⟨g, 0, none⟩), .int .i64 4] wr fun e w' => e = .returned (.int .u64 (takeSt 4 rest er).1) ∧ RS w lo b g V m (takeSt 4 rest er).2.1 (takeSt 4 rest er).2.2 w' :=
  (take_any lo g 4 rest er wr h.inn).mono fun _ _ k => ⟨k.1, h.turn k.2.1 k.2.2⟩
theorem RS.raw (h : RS w lo b g V m rest er wr) (hl : rest.length ≤ 1000000) : Calls Tryd.prog 41 #[.pointer (some ⟨g, 0, none⟩), .int .i64 28] wr fun e w' => ∃ u, e = .returned u ∧ SlIs w' wr.heap.size w'.heap.size u (rawSt 28 rest er).1 ∧ RS w lo b g V m (rawSt 28 rest er).2.1 (rawSt 28 rest er).2.2 w' :=
  (raw_any lo g 28 rest er wr h.inn (by omega)).mono fun _ _ k => by
    obtain ⟨u, he, ho, hi, k2⟩ := k
    exact ⟨u, he, owns_SlIs ho, h.turn hi k2⟩
/-- A row of one entry, laid by a literal. -/
theorem lit_ent (W : World) (x : En) : RwIs (W.alloc (.cells #[.string (strOf x.n), .int .u32 (x.i : Int)] 38)) (fun i => i = W.heap.size) 1 (.slice (some ⟨W.heap.size, 0, none⟩) 1 1) (enC [x]) :=
  ⟨_, _, rfl, fun _ => ⟨_, rfl, rfl, by simp, fun j u hu => by
    have hc := (Has.new W 38 #[.string (strOf x.n), .int .u32 (x.i : Int)]).cell j
    rw [Addr.add_lit, Nat.zero_add]
    refine hc.trans ?_
    rw [← hu]
    simp [enC, En.cells]⟩⟩
theorem RS.push (h : RS w lo b g V m rest er wr) (x : En) {V' : Value} {wa : World} (ho : wa.ownsRow w.heap.size 38 2 V' (m.length + 1) (enC m ++ enC [x]))
    (hg : (wr.alloc (.cells #[.string (strOf x.n), .int .u32 (x.i : Int)] 38)).grownBy wa V.ownBlock) (hb : V'.ownBlock = V.ownBlock ∨ V'.ownBlock = some (wr.heap.size + 1)) :
    Has wa b 22 #[V] ∧ RS w lo b g V' (m ++ [x]) rest er (wa.setCell ⟨b, 0, none⟩ V') := by
  have hin := h.inn.lt
  have hlow := h.low
  have hbase := h.base
  have h1 := h.keep ((Still.refl wr).alloc (.cells #[.string (strOf x.n), .int .u32 (x.i : Int)] 38))
  have k : Only (fun i => some i = V.ownBlock) _ wa := Only.of_grown hg
  have hbox : Has wa b 22 #[V] := h1.box.only k (fun e => by have := h.far b e.symm; omega)
  have kb : Only (fun i => i = b) wa (wa.setCell ⟨b, 0, none⟩ V') := (Only.refl (fun i => i = b) wa).setCell (p := ⟨b, 0, none⟩) (fun _ => rfl) V'
  have hfar : ∀ i, V'.ownBlock = some i → g < i := fun i hi => by
    rcases hb with e | e
    · exact h.far i (by rw [← e]; exact hi)
    · rw [e] at hi
      injection hi with hi
      omega
  have e2 : (enC m ++ enC [x]) = enC (m ++ [x]) := (enC_append m [x]).symm
  rw [e2] at ho
  refine ⟨hbox, hbox.set 0 V', ?_, hfar, ?_, h.low, h.base, ?_⟩
  · rw [List.length_append]
    exact owns_only ho kb (fun i hi e => by have := hfar i hi; omega)
  · exact (h1.inn.only k (fun i _ h2 e => by have := h.far i e.symm; omega)).only kb (fun i h2 _ e => by omega)
  · refine Only.trans (Only.trans h1.still k (fun i hi e => ?_)) kb (fun i hi e => by omega)
    have := (h.own.lt i e.symm).1
    omega
end
end Go.Proofs.YtkhgaolaaiekjaaDoor
namespace Go.Proofs.YtkhgaolaaiekjaaDoor
open Go.RowKit
set_option maxRecDepth 100000

section
variable {P : Program} (w : World)
/-- append of a row, nil too, onto a row of one's own. -/
theorem run_append_rows (base : Nat) (t ty e : TypeId) (i : TypeInfo) (z : Value) (size bytes : Nat) (ht : P.underlying t = some (.slice e)) (hi : P.info? e = some i) (hz : i.zero = some z)
    (hsize : i.size = size) (hby : i.bytes = bytes) (hzs : z.cells.size = size) (hsz : 0 < size) (v : Value) (n : Nat) (xs : List Value) (hown : w.ownsRow base e size v n xs)
    (E : Nat → Prop) (m : Nat) (x : Value) (news : List Value) (hx : RwIs w E m x news) (hl : news.length = m * size) (h1 : ∀ u ∈ news, u.oneCell' = true) (h63 : n + m ≤ maxLen) (hbytes : (n + m) * bytes ≤ 140737488355328) (hbase : base ≤ w.heap.size) :
    ∃ v' w', (Builtin.append_ #[t, t] ty #[v, x]).run P w = .ok v' w' ∧ w'.ownsRow base e size v' (n + m) (xs ++ news) ∧ w.grownBy w' v.ownBlock ∧ (v'.ownBlock = v.ownBlock ∨ v'.ownBlock = some w.heap.size) := by
  obtain ⟨A, c, rfl, hr⟩ := hx
  cases A with
  | none =>
    have h0 : news = [] := by
      rcases Nat.eq_zero_or_pos news.length with h0 | h0
      · exact List.eq_nil_of_length_eq_zero h0
      · obtain ⟨ad, h, _⟩ := hr h0
        cases h
    subst h0
    have hm : m = 0 := by
      rcases Nat.eq_zero_or_pos m with h | h
      · exact h
      · have := Nat.mul_pos h hsz
        simp at hl
        omega
    subst hm
    exact ⟨v, w, run_append_nothing w base t ty e i size ht hi v _ _ hown c, by simpa using hown, ⟨rfl, rfl, rfl, Nat.le_refl _, fun _ _ _ => rfl⟩, .inl rfl⟩
  | some ad =>
    have hcells : ∀ j u, news[j]? = some u → w.cell? (ad.add j) = some u := fun j u hu => by
      obtain ⟨ad', h, _, _, hc⟩ := hr (by have := (List.getElem?_eq_some_iff.1 hu).1; omega)
      injection h with h
      subst h
      exact hc j u hu
    obtain ⟨v', w', h1', h2, h3, _, h5⟩ := run_append_own_at (P := P) w base t ty e i z size bytes ht hi hz hsize hby hzs hsz v n xs hown ad m c news hl hcells h1 h63 hbytes hbase
    exact ⟨v', w', h1', h2, h3, h5⟩
theorem wpList_append_rows {ops : Array Oper} {rest : List Oper} {o : Oper} {a : Act} {Q : Exit → Act → World → Prop} (hgd : o.guard = none) (s x : Operand) (t : TypeId)
    (ho : o.op = .call { callee := .builtin .append, args := #[s, x], argTypes := #[t, t] })
    (base : Nat) (e : TypeId) (i : TypeInfo) (z : Value) (size bytes : Nat) (ht : P.underlying t = some (.slice e)) (hi : P.info? e = some i) (hz : i.zero = some z)
    (hsize : i.size = size) (hby : i.bytes = bytes) (hzs : z.cells.size = size) (hsz : 0 < size) (v : Value) (n : Nat) (xs : List Value) (hs : a.eval s = v) (hown : w.ownsRow base e size v n xs)
    (E : Nat → Prop) (m : Nat) (xv : Value) (news : List Value) (hxv : a.eval x = xv) (hx : RwIs w E m xv news) (hl : news.length = m * size) (h1 : ∀ u ∈ news, u.oneCell' = true) (h63 : n + m ≤ maxLen) (hbytes : (n + m) * bytes ≤ 140737488355328) (hbase : base ≤ w.heap.size)
    (h : ∀ v' w', w'.ownsRow base e size v' (n + m) (xs ++ news) → w.grownBy w' v.ownBlock → (v'.ownBlock = v.ownBlock ∨ v'.ownBlock = some w.heap.size) → wpList P ops Q rest (a.put o.dst v') w') :
    wpList P ops Q (o :: rest) a w := by
  refine wpList_plain hgd fun K hK => ?_
  obtain ⟨v', w', hr, h2, h3, h4⟩ := run_append_rows (P := P) w base t o.type e i z size bytes ht hi hz hsize hby hzs hsz v n xs hown E m xv news hx hl h1 h63 hbytes hbase
  unfold Oper.wp execOp
  simp only [ho, resolve, invoke, builtin, Sem.run_bind, Sem.run_pure, Result.andThen_ok, List.map_toArray, List.map_cons, List.map_nil, hs, hxv, hr]
  exact hK _ _ (h v' w' h2 h3 h4)
theorem step_append_rows {ops : Array Oper} {o : Oper} {a : Act} {K : Act → World → Prop} {Q : Exit → Act → World → Prop} {F : Prop} (hgd : o.guard = none) (s x : Operand) (t : TypeId)
    (ho : o.op = .call { callee := .builtin .append, args := #[s, x], argTypes := #[t, t] })
    (base : Nat) (e : TypeId) (i : TypeInfo) (z : Value) (size bytes : Nat) (ht : P.underlying t = some (.slice e)) (hi : P.info? e = some i) (hz : i.zero = some z)
    (hsize : i.size = size) (hby : i.bytes = bytes) (hzs : z.cells.size = size) (hsz : 0 < size) (v : Value) (n : Nat) (xs : List Value) (hs : a.eval s = v) (hown : w.ownsRow base e size v n xs)
    (E : Nat → Prop) (m : Nat) (xv : Value) (news : List Value) (hxv : a.eval x = xv) (hx : RwIs w E m xv news) (hl : news.length = m * size) (h1 : ∀ u ∈ news, u.oneCell' = true) (h63 : n + m ≤ maxLen) (hbytes : (n + m) * bytes ≤ 140737488355328) (hbase : base ≤ w.heap.size)
    (h : ∀ v' w', w'.ownsRow base e size v' (n + m) (xs ++ news) → w.grownBy w' v.ownBlock → (v'.ownBlock = v.ownBlock ∨ v'.ownBlock = some w.heap.size) → K (a.put o.dst v') w') :
    if Region.wanted o (yielded ops a.tmps) = true then Oper.wp P o a w K Q else F := by
  have hw : Region.wanted o (yielded ops a.tmps) = true := by simp [Region.wanted, hgd]
  rw [if_pos hw]
  obtain ⟨v', w', hr, h2, h3, h4⟩ := run_append_rows (P := P) w base t o.type e i z size bytes ht hi hz hsize hby hzs hsz v n xs hown E m xv news hx hl h1 h63 hbytes hbase
  unfold Oper.wp execOp
  simp only [ho, resolve, invoke, builtin, Sem.run_bind, Sem.run_pure, Result.andThen_ok, List.map_toArray, List.map_cons, List.map_nil, hs, hxv, hr]
  exact h v' w' h2 h3 h4
end

/-- A row of nothing, laid by a literal. -/
theorem lit_none (w : World) (e : TypeId) (size : Nat) : (w.alloc (.cells #[] e)).ownsRow w.heap.size e size (.slice (some ⟨w.heap.size, 0, none⟩) 0 0) 0 [] := World.ownsRow_made w #[] 0 (Nat.le_refl _) (by simp [maxLen]) (by simp)
end Go.Proofs.YtkhgaolaaiekjaaDoor
namespace Go.Proofs.YtkhgaolaaiekjaaDoor
open Go.RowKit Go.Lib
set_option maxRecDepth 100000

theorem Tryd.enterRead1 : ∀ args w, (callFunc 42 args).run Tryd.prog w = .ok (.enter 42 args) w := enters_of Tryd.func42 (by kernel_rfl) rfl
theorem eread1_any (E : Nat → Prop) (v : Value) (l : List En) (w : World) (hT : Tabs w) (hl : l.length ≤ 1000000) (hx : ∀ x ∈ l, x.n.length ≤ 1000000) (h : EsIs w E v l) (b : Nat) (hb : Has w b 22 #[v]) :
    Calls Tryd.prog 42 #[.pointer (some ⟨b, 0, none⟩)] w fun e w' => e = endsIn (chkE l) ∧ Still w w' := by
  have C := mustrow_any E v l w hT hl hx h
  obtain ⟨A, c, rfl⟩ := h.form
  have c0 := hb.cell 0
  simp only [List.getElem?_toArray, List.getElem?_cons_zero] at c0
  by_cases hz : chkE l = 0
  · rw [hz, endsIn_yes] at C ⊢
    have C := Lib.hid C
    clear hz h hb hT
    go_enter Tryd.func42, Tryd.ntmps42
    go_wp2_with fail
    refine C.out.mono ?_
    rintro e w1 ⟨rfl, k1⟩
    have K1 := Lib.hid k1
    clear k1 C
    go_wp2
    go_end0
    exact ⟨rfl, K1.out⟩
  · rw [endsIn_no hz] at C ⊢
    have C := Lib.hid C
    generalize chkE l = N at *
    clear hz h hb hT
    go_enter Tryd.func42, Tryd.ntmps42
    go_wp2_with fail
    refine C.out.mono ?_
    rintro e w1 ⟨rfl, k1⟩
    have K1 := Lib.hid k1
    clear k1 C
    go_wp2
    exact ⟨rfl, rfl, K1.out⟩

/-- What read ends in. -/
def RdStep (w : World) (bs : List UInt8) (e : Ending) (w' : World) : Prop :=
  Still w w' ∧ if chkE (rowOf bs) = 0 then ∃ V, e = .returned V ∧ w'.ownsRow w.heap.size 38 2 V (rowOf bs).length (enC (rowOf bs)) else e = endsIn 2
/-- How many bytes an In has left, as the world has it. -/
def leftR (g : Nat) (w : World) : Nat := match w.cell? ⟨g, 0, none⟩ with
  | some (.slice _ n _) => n
  | _ => 0
theorem leftR_of {w : World} {lo g : Nat} {bs : List UInt8} {er : Int} (h : InAt w lo g bs er) : leftR g w = bs.length := by
  obtain ⟨A, c, h1, _⟩ := h
  have := h1.cell 0
  simp at this
  unfold leftR
  rw [this]
theorem takeSt_le (n : Nat) (bs : List UInt8) : (takeSt n bs 0).2.1.length ≤ bs.length := by
  unfold takeSt
  split
  · simp
  · split
    · simp
    · split
      · simp
      · simp
/-- A round of read, in names. -/
theorem RS.round {w wr : World} {lo b g : Nat} {V : Value} {m : List En} {rest : List UInt8} (h : RS w lo b g V m rest 0 wr) (h0 : rest ≠ []) :
    ∃ (n1 : Nat) (r1 : List UInt8) (e1 : Int) (bb r2 : List UInt8) (e2 : Int), n1 < 4294967296 ∧ r1.length ≤ rest.length ∧
      Calls Tryd.prog 39 #[.pointer (some ⟨g, 0, none⟩), .int .i64 4] wr (fun e w' => e = .returned (.int .u64 (n1 : Int)) ∧ RS w lo b g V m r1 e1 w') ∧
      rawSt 28 r1 e1 = (bb, r2, e2) ∧ rowOf rest = ⟨trimZ bb, n1⟩ :: rowOf r2 ∧ (e2 = 0 ∨ r2 = []) ∧ r2.length < rest.length := by
  obtain ⟨f1, f2, f3, f4⟩ := rd_facts h0
  exact ⟨(rd1 rest).1, (rd1 rest).2.1, (rd1 rest).2.2, (rd2 rest).1, (rd2 rest).2.1, (rd2 rest).2.2, f4, takeSt_le 4 rest, h.take, rfl, f1, f2, f3⟩
set_option maxHeartbeats 4000000 in
theorem eread_any (v : Value) (bs : List UInt8) (lo hi : Nat) (w : World) (hT : Tabs w) (hv : SlIs w lo hi v bs) (hhi : hi ≤ w.heap.size) (hl : bs.length ≤ 1000000) :
    Calls Tryd.prog 24 #[v] w (RdStep w bs) := by
  obtain ⟨j0, hj0, hy0, hy1, hy2⟩ := info_parts Tryd.infoEntR
  obtain ⟨W0, hW0⟩ : ∃ W0, W0 = w.alloc (.cells #[.slice none 0 0] 22) := ⟨_, rfl⟩
  have s0 : W0.heap.size = w.heap.size + 1 := by rw [hW0]; simp
  have k0 : Still w W0 := by rw [hW0]; exact (Still.refl w).alloc _
  have b0 : Has W0 w.heap.size 22 #[.slice none 0 0] := by rw [hW0]; exact Has.new _ _ _
  have C0 := Lib.hid (of_any v bs lo hi W0 (k0.slis hv hhi) (by omega) (by omega))
  have ST : Hid (∀ w1 g, InAt w1 W0.heap.size g bs 0 → Below W0.heap.size W0 w1 → RS w W0.heap.size w.heap.size g (.slice none 0 0) [] bs 0 w1) := Lib.hid (fun w1 g hi hb =>
    ⟨(Still.of_below hb).has b0, World.ownsRow_nil _ _ _ _, (fun i h => by cases h), hi, by omega, Nat.le_refl _, k0.trans (Still.of_below hb)⟩)
  have HT := Lib.hid hT
  obtain ⟨A, c, rfl, _⟩ := hv
  have HL0 : Hid (W0.heap.size = w.heap.size + 1) := Lib.hid s0
  clear hT b0 k0 s0
  subst hW0
  go_enter Tryd.func24, Tryd.ntmps24
  go_wp2_with fail
  refine C0.out.mono ?_
  rintro e w1 ⟨g, rfl, i1, b1⟩
  have R0 := Lib.hid (ST.out w1 g i1 b1)
  obtain ⟨LO, hLO⟩ : ∃ LO, LO = (w.alloc (.cells #[.slice none 0 0] 22)).heap.size := ⟨_, rfl⟩
  rw [← hLO] at R0
  clear i1 b1 C0 ST HL0 hLO
  have E0 : Hid (rowOf bs = [] ++ rowOf bs) := Lib.hid rfl
  have B0 := Lib.hid (rowOf_len _ bs (Nat.le_refl _))
  have S0 := Lib.hid (rowOf_short _ bs (Nat.le_refl _))
  have L0 := Lib.hid hl
  go_wp2_with fail
  go_loopw [5, 6] (fun _ _ wr => ∃ (m : List En) (rest : List UInt8) (er : Int) (V : Value), Hid (rowOf bs = m ++ rowOf rest) ∧ Hid (er = 0 ∨ rest = []) ∧ Hid (RS w LO w.heap.size g V m rest er wr) ∧ Hid (rest.length ≤ bs.length)) (fun _ _ wr => leftR g wr)
  case atStart => exact ⟨[], bs, 0, _, E0, Lib.hid (.inl rfl), R0, Lib.hid (Nat.le_refl _)⟩
  case round =>
    obtain ⟨m, rest, er, V, hM, hE, hrel, hLn⟩ := hrel
    obtain ⟨V0, hV0⟩ : ∃ V0, V0 = wr := ⟨_, rfl⟩
    subst hV0
    clear R0 E0
    have CL := Lib.hid hrel.out.left
    by_cases h0 : rest = []
    · subst h0
      have EM : rowOf bs = m := by
        have := hM.out
        rwa [rowOf_nil, List.append_nil] at this
      have hml : m.length ≤ 1000000 := by
        have := B0.out
        rw [EM] at this
        omega
      have hms : ∀ x ∈ m, x.n.length ≤ 1000000 := fun x hx => by
        have := S0.out x (by rw [EM]; exact hx)
        omega
      have kE : Still V0 (V0.alloc errBox) := (Still.refl V0).alloc _
      have r := hrel.out.keep kE
      have C := Lib.hid (caught_any 42 #[.pointer (some ⟨w.heap.size, 0, none⟩)] Tryd.enterRead1 V0 (chkE m) (fun w' => Still (V0.alloc errBox) w')
        ((eread1_any _ V m (V0.alloc errBox) (HT.out.stay r.still) hml hms (EsIs.of_own r.own) w.heap.size r.box).mono fun e w' hh => ⟨hh.1, hh.2.has (Has.new V0 26 #[.int .i64 0]), hh.2⟩))
      have FK : Hid (∀ w1 w2, Still (V0.alloc errBox) w1 → Only (fun i => i = V0.heap.size) w1 w2 → Still w w2 ∧ w2.cell? ⟨w.heap.size, 0, none⟩ = some V ∧ w2.ownsRow w.heap.size 38 2 V m.length (enC m)) := Lib.hid (fun w1 w2 k1 k2 => by
        have r1 := r.keep k1
        have hlt := hrel.out.box.lt
        have hsz := hrel.out.still.size
        have hc := (r1.box.only k2 (by omega)).cell 0
        simp only [List.getElem?_toArray, List.getElem?_cons_zero] at hc
        refine ⟨Only.trans r1.still k2 (fun i hi e => by omega), hc, owns_only r1.own k2 (fun i hi e => ?_)⟩
        have := (hrel.out.own.lt i hi).2
        omega)
      have RD : Hid (∀ e w', Still w w' → (chkE m = 0 → ∃ V, e = .returned V ∧ w'.ownsRow w.heap.size 38 2 V m.length (enC m)) → (chkE m ≠ 0 → e = endsIn 2) → RdStep w bs e w') := Lib.hid (fun e w' k h1 h2 => by
        refine ⟨k, ?_⟩
        rw [EM]
        split
        · rename_i h
          exact h1 h
        · rename_i h
          exact h2 h)
      have VF : Hid (∃ A n c, V = .slice A n c) := Lib.hid (by
        obtain ⟨A, n, c, e⟩ := owns_form r.own
        exact ⟨A, n, c, e⟩)
      clear kE r EM hml hms hM hE hrel hLn B0 S0 L0 HT
      by_cases hz : chkE m = 0
      · rw [hz] at C
        have RZ := Lib.hid (fun e w' k h1 => RD.out e w' k (fun _ => h1) (fun h => absurd hz h))
        clear hz RD
        go_wp2_with fail
        refine CL.out.mono ?_
        rintro e w' ⟨rfl, rfl⟩
        rw [List.length_nil]
        go_wp2_with fail
        refine C.out.mono ?_
        rintro e w2 ⟨rfl, w1, k1, k2⟩
        obtain ⟨s2, c2, o2⟩ := FK.out w1 w2 k1 k2
        have R := Lib.hid (RZ.out _ w2 s2 ⟨V, rfl, o2⟩)
        obtain ⟨A2, n2, cc2, rfl⟩ := VF.out
        clear s2 o2 k1 k2 C FK RZ CL VF
        go_wp2_with fail
        refine (must_yes 2 _).mono ?_
        rintro e w' ⟨rfl, rfl⟩
        go_wp2
        go_ret
        exact R.out
      · have RZ := Lib.hid (fun w' k => RD.out _ w' k (fun h => absurd h hz) (fun _ => endsIn_no (by decide)))
        have dz : (chkE m == 0) = false := by simpa using hz
        generalize chkE m = N at *
        clear hz RD
        go_wp2_with fail
        refine CL.out.mono ?_
        rintro e w' ⟨rfl, rfl⟩
        rw [List.length_nil]
        go_wp2_with fail
        refine C.out.mono ?_
        rintro e w2 ⟨rfl, w1, k1, k2⟩
        obtain ⟨s2, c2, o2⟩ := FK.out w1 w2 k1 k2
        have R := Lib.hid (RZ.out w2 s2)
        clear s2 o2 c2 k1 k2 C FK RZ CL VF
        go_wp2_with fail
        refine (must_no 2 _).mono ?_
        rintro e w' ⟨rfl, rfl⟩
        go_wp2
        exact ⟨rfl, R.out⟩
    · have er0 : er = 0 := by
        rcases hE.out with h | h
        · exact h
        · exact absurd h h0
      subst er0
      obtain ⟨n1, r1, e1, bb, r2, e2, hn1, hr1, ht, er, em, ee, hlen⟩ := hrel.out.round h0
      have hpos : (0 : Int) < (rest.length : Int) := by
        have : rest.length ≠ 0 := fun h => h0 (List.eq_nil_of_length_eq_zero h)
        omega
      have dg : decide (0 < rest.length) = true := decide_eq_true (by omega)
      have wi : IntKind.u32.wrap (n1 : Int) = (n1 : Int) := IntWalk.u32_in _ (by omega)
      have hM2 : Hid (rowOf bs = (m ++ [⟨trimZ bb, n1⟩]) ++ rowOf r2) := Lib.hid (by rw [hM.out, em, List.append_assoc]; rfl)
      have hmL : m.length + 1 ≤ 1000000 := by
        have h1 := B0.out
        rw [hM2.out, List.length_append, List.length_append] at h1
        simp at h1
        omega
      have HLf := leftR_of hrel.out.inn
      have HR1 : Hid (r1.length ≤ 1000000) := Lib.hid (by have := hLn.out; omega)
      have HR2 : Hid (r2.length ≤ bs.length) := Lib.hid (by have := hLn.out; omega)
      have CT := Lib.hid ht
      have EE := Lib.hid ee
      have ER := Lib.hid er
      clear ht er em ee hM hE hrel hLn B0 S0 L0 HT h0
      go_wp2_with fail
      refine CL.out.mono ?_
      rintro e w' ⟨rfl, rfl⟩
      clear CL
      go_wp2_with fail
      refine CT.out.mono ?_
      rintro e w2 ⟨rfl, h2⟩
      have CR0 := h2.raw HR1.out
      rw [ER.out] at CR0
      have CR := Lib.hid CR0
      clear h2 CT CR0 ER
      go_wp2_with fail
      refine CR.out.mono ?_
      rintro e w3 ⟨u, rfl, hsl, h3⟩
      have CZ := Lib.hid (trimright_any u bb _ _ w3 hsl)
      have H3 := Lib.hid h3
      clear CR hsl h3
      go_wp2_with fail
      refine CZ.out.mono ?_
      rintro e w4 ⟨A4, c4, rfl, hs4, q, rfl⟩
      have rs := run_str _ _ _ _ (w3.drewN q) hs4
      have h4 := H3.out.keep ((Still.refl w3).drewN q)
      have c0 := h4.box.cell 0
      simp only [List.getElem?_toArray, List.getElem?_cons_zero] at c0
      obtain ⟨W4, hW4⟩ : ∃ W4, W4 = w3.drewN q := ⟨_, rfl⟩
      rw [← hW4] at rs h4 c0
      rw [← hW4]
      generalize trimZ bb = nm at *
      have PU := Lib.hid (fun V' wa ho hg hb => h4.push ⟨nm, n1⟩ (V' := V') (wa := wa) ho hg hb)
      have LIT := Lib.hid (lit_ent W4 ⟨nm, n1⟩)
      have OWN := Lib.hid (h4.keep ((Still.refl W4).alloc (.cells #[.string (strOf nm), .int .u32 (n1 : Int)] 38))).own
      have HSZ := Lib.hid h4.still.size
      dsimp only at PU LIT
      clear H3 CZ h4 hW4 hs4
      go_wp2_with (at_builtin; go_must (refine wpList_append_rows _ rfl (.tmp 18) (.tmp 23) 22 rfl _ 38 j0 _ 2 24 Tryd.underlying22 hj0 hy0 hy1 hy2 rfl (by omega) _ m.length (enC m) rfl OWN.out _ 1 _ (enC [⟨nm, n1⟩]) rfl LIT.out rfl (enC_one _) (by simp only [maxLen]; omega) (by omega) (by have := HSZ.out; simp; omega) ?_))
      intro v9 w9 a9 g9 b9
      obtain ⟨hb9, r9⟩ := PU.out v9 w9 a9 g9 (by simpa using b9)
      have R := Lib.hid r9
      have x0 := hb9.cell 0
      have y0 := hb9.frozen 0
      simp only [List.getElem?_toArray, List.getElem?_cons_zero] at x0
      obtain ⟨A9, n9, c9, rfl⟩ := owns_form a9
      clear hb9 r9 a9 g9 b9 PU LIT OWN HSZ c0 rs
      go_wp2
      go_roundw
      case rel => exact ⟨m ++ [⟨nm, n1⟩], r2, e2, _, hM2, EE, R, HR2⟩
      case measure =>
        rw [HLf, leftR_of R.out.inn]
        exact hlen
end Go.Proofs.YtkhgaolaaiekjaaDoor
namespace Go.Proofs.YtkhgaolaaiekjaaDoor
open Go.RowKit Go.Lib
set_option maxRecDepth 100000

/-- What the function that Decode hands to Caught leaves. -/
def EDec1 (w : World) (vb : Nat) (l : List En) (w' : World) : Prop :=
  Only (fun j => j = vb) w w' ∧ ∃ v, Has w' vb 22 #[v] ∧ w'.ownsRow w.heap.size 38 2 v l.length (enC l)
theorem Tryd.enterDecode1e : ∀ args w, (callFunc 23 args).run Tryd.prog w = .ok (.enter 23 args) w := enters_of Tryd.func23 (by kernel_rfl) rfl
/-- A box is written: what was made behind w stays. -/
theorem put_box {w w2 : World} {vb : Nat} {t : TypeId} {v0 u : Value} {l : List En} (hv : Has w vb t #[v0]) (k : Still w w2) (o : w2.ownsRow w.heap.size 38 2 u l.length (enC l)) (ht : t = 22) :
    Has w2 vb t #[v0] ∧ EDec1 w vb l (w2.setCell ⟨vb, 0, none⟩ u) := by
  subst ht
  have hv2 := k.has hv
  have hlt := hv.lt
  refine ⟨hv2, Only.setCell (S := fun i => i = vb) (k.mono (fun _ _ h => h.elim)) (p := ⟨vb, 0, none⟩) (fun _ => rfl) u, u, hv2.set 0 u, ?_⟩
  refine owns_only o ((Only.refl (fun i => i = vb) w2).setCell (p := ⟨vb, 0, none⟩) (fun _ => rfl) u) (fun i hi e => ?_)
  have := (o.lt i hi).1
  omega
set_option maxHeartbeats 1000000 in
theorem edecode1_any (v : Value) (bs : List UInt8) (lo hi : Nat) (w : World) (hT : Tabs w) (hv : SlIs w lo hi v bs) (hhi : hi ≤ w.heap.size) (hl : bs.length ≤ 1000000) (p vb : Nat) (hp : Has w p 25 #[v]) (hb : Has w vb 22 #[.slice none 0 0]) :
    Calls Tryd.prog 23 #[.pointer (some ⟨p, 0, none⟩), .pointer (some ⟨vb, 0, none⟩)] w fun e w' => e = endsIn (decR bs) ∧ EDec1 w vb (decM bs) w' := by
  have C0 := eread_any v bs lo hi w hT hv hhi hl
  obtain ⟨A, c, rfl, _⟩ := hv
  have c0 := hp.cell 0
  simp only [List.getElem?_toArray, List.getElem?_cons_zero] at c0
  by_cases hz : chkE (rowOf bs) = 0
  · have e1 : decR bs = 0 := if_pos hz
    have e2 : decM bs = rowOf bs := if_pos hz
    have C : Hid (Calls Tryd.prog 24 #[.slice A bs.length c] w fun e w' => ∃ V, e = .returned V ∧ w'.ownsRow w.heap.size 38 2 V (rowOf bs).length (enC (rowOf bs)) ∧ Still w w') := Lib.hid (C0.mono fun e w' h => by
      obtain ⟨k, h2⟩ := h
      rw [if_pos hz] at h2
      obtain ⟨V, h3, h4⟩ := h2
      exact ⟨V, h3, h4, k⟩)
    rw [e1, e2, endsIn_yes]
    have K : Hid (∀ w2 u, Still w w2 → w2.ownsRow w.heap.size 38 2 u (rowOf bs).length (enC (rowOf bs)) → Has w2 vb 22 #[.slice none 0 0] ∧ EDec1 w vb (rowOf bs) (w2.setCell ⟨vb, 0, none⟩ u)) := Lib.hid (fun w2 u k o => put_box hb k o rfl)
    generalize rowOf bs = m at *
    clear C0 hz e1 e2 hp hb hT
    go_enter Tryd.func23, Tryd.ntmps23
    go_wp2_with fail
    refine C.out.mono ?_
    rintro e w1 ⟨u, rfl, o1, k1⟩
    obtain ⟨hb1, r⟩ := K.out w1 u k1 o1
    have R := Lib.hid r
    have x0 := hb1.cell 0
    have y0 := hb1.frozen 0
    simp only [List.getElem?_toArray, List.getElem?_cons_zero] at x0
    obtain ⟨A2, n2, c2, rfl⟩ := owns_form o1
    clear hb1 r o1 k1 K C c0
    go_wp2
    go_end0
    exact ⟨rfl, R.out⟩
  · have e1 : decR bs = 2 := if_neg hz
    have e2 : decM bs = [] := if_neg hz
    have C : Hid (Calls Tryd.prog 24 #[.slice A bs.length c] w fun e w' => e = endsIn 2 ∧ Still w w') := Lib.hid (C0.mono fun e w' h => by
      obtain ⟨k, h2⟩ := h
      rw [if_neg hz] at h2
      exact ⟨h2, k⟩)
    rw [endsIn_no (by decide)] at C
    rw [e1, e2, endsIn_no (by decide)]
    have K : Hid (∀ w1, Still w w1 → EDec1 w vb [] w1) := Lib.hid (fun w1 k => ⟨k.mono (fun _ _ h => h.elim), _, k.has hb, World.ownsRow_nil _ _ _ _⟩)
    clear C0 hz e1 e2 hp hb hT
    go_enter Tryd.func23, Tryd.ntmps23
    go_wp2_with fail
    refine C.out.mono ?_
    rintro e w1 ⟨rfl, k1⟩
    have R := Lib.hid (K.out w1 k1)
    clear k1 C K c0
    go_wp2
    exact ⟨rfl, rfl, R.out⟩

/-- What Caught leaves of a row that was made in a box: the row, and the rest as it was. -/
theorem made_row {w W w1 w2 : World} {vb : Nat} {l : List En} (kW : Still w (W.alloc errBox)) (hb : w.heap.size ≤ vb) (h1 : EDec1 (W.alloc errBox) vb l w1) (hv : vb < W.heap.size) (k2 : Only (fun j => j = W.heap.size) w1 w2) :
    ∃ A c, w2.cell? ⟨vb, 0, none⟩ = some (.slice A l.length c) ∧ EsIs w2 (fun i => w.heap.size ≤ i) (.slice A l.length c) l ∧ Still w w2 := by
  obtain ⟨k1, u, hbx, ho⟩ := h1
  have hs := kW.size
  have hs1 := k1.size
  have hz : (W.alloc errBox).heap.size = W.heap.size + 1 := by simp
  have hc := (hbx.only k2 (by omega)).cell 0
  simp only [List.getElem?_toArray, List.getElem?_cons_zero] at hc
  have ho2 : w2.ownsRow (W.alloc errBox).heap.size 38 2 u l.length (enC l) := owns_only ho k2 (fun i hi e => by
    have := (ho.lt i hi).1
    omega)
  have he : EsIs w2 (fun i => w.heap.size ≤ i) u l := EsIs.mono (EsIs.of_own ho2) (fun i _ hi => by
    have := (ho2.lt i hi).1
    omega)
  obtain ⟨A, c, rfl⟩ := he.form
  exact ⟨A, c, hc, he, Only.trans (Only.trans kW k1 (fun i hi e => by omega)) k2 (fun i hi e => by omega)⟩
set_option maxHeartbeats 1000000 in
theorem dec_spec : DecSpec := by
  intro v bs lo hi w hT hv hhi hl
  obtain ⟨A, c, rfl, _⟩ := id hv
  obtain ⟨W, hW⟩ : ∃ W, W = (w.alloc (.cells #[.slice A bs.length c] 25)).alloc (.cells #[.slice none 0 0] 22) := ⟨_, rfl⟩
  have sW : W.heap.size = w.heap.size + 1 + 1 := by rw [hW]; simp
  have kW : Still w (W.alloc errBox) := by rw [hW]; exact (((Still.refl w).alloc _).alloc _).alloc _
  have hp : Has (W.alloc errBox) w.heap.size 25 #[.slice A bs.length c] := by rw [hW]; exact ((Has.new w 25 _).alloc _).alloc _
  have hb : Has (W.alloc errBox) (w.heap.size + 1) 22 #[.slice none 0 0] := by
    rw [hW]
    have := (Has.new (w.alloc (.cells #[.slice A bs.length c] 25)) 22 #[.slice none 0 0]).alloc errBox
    simpa using this
  have C := Lib.hid (caught_any 23 _ Tryd.enterDecode1e W (decR bs) (EDec1 (W.alloc errBox) (w.heap.size + 1) (decM bs))
    ((edecode1_any (.slice A bs.length c) bs lo hi _ (hT.stay kW) (kW.slis hv hhi) (by have := kW.size; omega) hl _ _ hp hb).mono fun e w' hh => ⟨hh.1, (Has.new W 26 #[.int .i64 0]).only hh.2.1 (by omega), hh.2⟩))
  have R : Hid (∀ w1 w2, EDec1 (W.alloc errBox) (w.heap.size + 1) (decM bs) w1 → Only (fun j => j = W.heap.size) w1 w2 → ∃ A n c, w2.cell? ⟨w.heap.size + 1, 0, none⟩ = some (.slice A n c) ∧ DecStep bs w (.returned (.tuple #[.slice A n c, .int .i64 (decR bs)])) w2) := Lib.hid (fun w1 w2 h1 k2 => by
    obtain ⟨A, c, hc, he, hk⟩ := made_row kW (by omega) h1 (by omega) k2
    exact ⟨A, _, c, hc, _, decM bs, decR bs, rfl, dec_is bs, he, hk⟩)
  rw [hW] at C R
  generalize decR bs = er at *
  clear hp hb kW sW hW hT hhi hl hv
  go_enter Tryd.func12, Tryd.ntmps12
  go_wp2_with fail
  refine C.out.mono ?_
  rintro e w2 ⟨rfl, w1, h1, k2⟩
  obtain ⟨A2, n2, c2, hc, h⟩ := R.out w1 w2 h1 k2
  have H := Lib.hid h
  clear h1 k2 h R C
  go_wp2
  go_ret2
  exact H.out
end Go.Proofs.YtkhgaolaaiekjaaDoor
