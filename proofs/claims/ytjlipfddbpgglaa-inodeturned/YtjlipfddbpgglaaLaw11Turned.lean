/-
  Layer 11's InodeTurned: whatever inode, place and bit, it answers true and leaves what was there.
-/
import Derived.Test.YtjlipfddbpgglaaLaw11Four
namespace Go.Proofs.Ytjlipfddbpgglaa
open Go.RowKit Go.Lib
set_option maxRecDepth 100000

theorem xor_any (c d : UInt8) : bits .xor .u8 (c.toNat : Int) (d.toNat : Int) = ((c ^^^ d).toNat : Int) := by
  have h := c.toNat_lt
  have h2 := d.toNat_lt
  rw [u8_xor_nat c.toNat d.toNat (by omega) (by omega)]
  simp
theorem xor_any_ne {c d : UInt8} (hd : d ≠ 0) : c ^^^ d ≠ c := by
  intro h
  have : c ^^^ (c ^^^ d) = c ^^^ c := by rw [h]
  rw [← UInt8.xor_assoc] at this
  simp at this
  exact hd this
/-- A bit of a byte. -/
theorem bit_of (r : Nat) (h : r < 8) : ∃ d : UInt8, d ≠ 0 ∧ IntKind.u8.wrap (2 ^ r) = (d.toNat : Int) ∧ Op.shift .shl .u8 1 .u64 (r : Int) = pure (.int .u8 (d.toNat : Int)) := by
  match r, h with
  | 0, _ => exact ⟨1, by decide, by decide, rfl⟩
  | 1, _ => exact ⟨2, by decide, by decide, rfl⟩
  | 2, _ => exact ⟨4, by decide, by decide, rfl⟩
  | 3, _ => exact ⟨8, by decide, by decide, rfl⟩
  | 4, _ => exact ⟨16, by decide, by decide, rfl⟩
  | 5, _ => exact ⟨32, by decide, by decide, rfl⟩
  | 6, _ => exact ⟨64, by decide, by decide, rfl⟩
  | 7, _ => exact ⟨128, by decide, by decide, rfl⟩

set_option maxHeartbeats 1000000 in
theorem iturned_no (i : I14) (hc : ¬ i.May) (x y : Nat) (w : World) : Calls Try.prog 6 #[.agg i.cells, .int .u8 (x : Int), .int .u8 (y : Int)] w fun e w' => e = .returned (.bool true) ∧ Still w w' := by
  have CL := Lib.hid (fun W => check11_any i W)
  rw [I14.chk_no hc] at CL
  have HZ := Lib.hid i.cells_size
  have P0 := Lib.hid (Has.new w 26 i.cells)
  have K0 := Lib.hid ((Still.refl w).alloc (.cells i.cells 26))
  generalize i.cells = cs at *
  clear hc
  go_enter Try.func6, Try.ntmps6
  go_wp2_with fail
  refine (known11_any _).mono ?_
  rintro e w1 ⟨rfl, k1⟩
  have P1 := Lib.hid (k1.has P0.out)
  have K1 := Lib.hid (K0.out.trans k1)
  clear k1 P0 K0
  go_wp2_with (first
    | (refine load_struct Try.underlying26 rfl Try.inoSize w.heap.size cs (.tmp 3) rfl rfl rfl P1.out HZ.out ?_)
    | fail)
  refine (CL.out _).mono ?_
  rintro e w2 ⟨rfl, k2⟩
  have R := Lib.hid (K1.out.trans k2)
  clear k2 P1 K1 CL
  go_wp2
  go_ret
  exact ⟨rfl, R.out⟩

set_option maxHeartbeats 4000000 in
theorem iturned_yes (i : I14) (hi : i.Num) (hc : i.May) (x y : Nat) (hx : x < 256) (hy : y < 256) (w : World) : Calls Try.prog 6 #[.agg i.cells, .int .u8 (x : Int), .int .u8 (y : Int)] w fun e w' => e = .returned (.bool true) ∧ Still w w' := by
  have EN := Lib.hid (fun W => iencode_yes hi hc W)
  have CL := Lib.hid (fun W => check11_any i W)
  rw [I14.chk_yes hc] at CL
  have HZ := Lib.hid i.cells_size
  have P0 := Lib.hid (Has.new w 26 i.cells)
  have K0 := Lib.hid ((Still.refl w).alloc (.cells i.cells 26))
  have HL := Lib.hid i.bytes_length
  have HB : Hid (∀ cc, cc ≠ i.bytes → isI cc → ∀ w, (binOp .neq 26 (.agg (readI cc).cells) (.agg i.cells)).run Try.prog w = .ok (.bool true) w) := Lib.hid (fun cc hne h => Try.neqInode (fun e => hne (by rw [h.2, e])))
  obtain ⟨zs, hzs⟩ : ∃ zs : Array Value, zs = #[.int .u32 0, .int .u32 0, .int .u32 0, .int .u16 0, .int .u32 0, .int .u32 0, .int .u32 0, .int .u32 0, .int .u32 0, .int .u32 0, .int .u32 0, .int .u32 0, .int .u32 0, .int .u32 0] := ⟨_, rfl⟩
  have MZ : Hid (∀ W : World, W.alloc (.cells zs 26) = W.alloc (.cells #[.int .u32 0, .int .u32 0, .int .u32 0, .int .u16 0, .int .u32 0, .int .u32 0, .int .u32 0, .int .u32 0, .int .u32 0, .int .u32 0, .int .u32 0, .int .u32 0, .int .u32 0, .int .u32 0] 26)) := Lib.hid (fun W => by rw [hzs])
  have ZZ : Hid (zs.size = 14) := Lib.hid (by rw [hzs]; rfl)
  have ZI : Hid (zs = I14.zero.cells) := Lib.hid hzs
  obtain ⟨k, hk⟩ : ∃ k, k = x % 64 := ⟨_, rfl⟩
  have hk64 : k < 64 := by omega
  have hkx : (x : Int) % 64 = (k : Int) := by omega
  obtain ⟨r, hr⟩ : ∃ r, r = y % 8 := ⟨_, rfl⟩
  have hry : (y : Int) % 8 = (r : Int) := by omega
  obtain ⟨d, hd0, hd1, hd2⟩ := bit_of r (by omega)
  generalize i.bytes = bs at *
  generalize i.cells = cs at *
  obtain ⟨ck, hck⟩ : ∃ ck, ck = bs[k]'(by rw [HL.out]; exact hk64) := ⟨_, rfl⟩
  have hxo := xor_any ck d
  have hne : bs.set k (ck ^^^ d) ≠ bs := by
    intro h
    have h1 : (bs.set k (ck ^^^ d))[k]? = bs[k]? := by rw [h]
    rw [List.getElem?_set_self (by rw [HL.out]; exact hk64), List.getElem?_eq_getElem (by rw [HL.out]; exact hk64)] at h1
    injection h1 with h1
    rw [← hck] at h1
    exact xor_any_ne hd0 h1
  have HCK := Lib.hid hck
  have HNE := Lib.hid hne
  clear hi hc hzs hck hne hd0 hk hr
  go_enter Try.func6, Try.ntmps6
  go_wp2_with fail
  refine (known11_any _).mono ?_
  rintro e w1 ⟨rfl, k1⟩
  have P1 := Lib.hid (k1.has P0.out)
  have K1 := Lib.hid (K0.out.trans k1)
  clear k1 P0 K0
  go_wp2_with (first
    | (refine load_struct Try.underlying26 rfl Try.inoSize w.heap.size cs (.tmp 3) rfl rfl rfl P1.out HZ.out ?_)
    | fail)
  refine (CL.out _).mono ?_
  rintro e w2 ⟨rfl, k2⟩
  have P2 := Lib.hid (k2.has P1.out)
  have K2 := Lib.hid (K1.out.trans k2)
  clear k2 P1 K1 CL
  go_wp2_with (first
    | (refine load_struct Try.underlying26 rfl Try.inoSize w.heap.size cs (.tmp 3) rfl rfl rfl P2.out HZ.out ?_)
    | fail)
  refine (EN.out _).mono ?_
  rintro e w3 ⟨Ab, cb, rfl, s3, k3⟩
  have P3 := Lib.hid (k3.has P2.out)
  have K3 := Lib.hid (K2.out.trans k3)
  clear k3 P2 K2 EN
  obtain ⟨i0, hi0, hz0, hz1, hz2⟩ := info_parts Try.info8
  have hown : (w3.alloc (.cells #[] 5)).ownsRow w3.heap.size 5 1 (.slice (some ⟨w3.heap.size, 0, none⟩) 0 0) ([] : List UInt8).length (b8s []) :=
    World.ownsRow_made w3 #[] 0 (Nat.le_refl _) (by simp [maxLen]) (by simp)
  have H1 := Lib.hid hown
  have H2 := Lib.hid (s3.alloc (o := .cells #[] 5) (Nat.le_refl _))
  have hl2 : bs.length ≤ 140737488355328 := by rw [HL.out]; decide
  clear hown s3
  go_wp2_with (at_builtin; refine wpList_append_bytes _ rfl (.tmp 29) (.tmp 30) 28 rfl w3.heap.size 5 i0 Try.underlying28 hi0 hz0 hz1 hz2 _ [] bs rfl H1.out _ _ _ rfl H2.out (by simpa using hl2) (by simp) ?_)
  intro v5 u5 o5 g5 _
  have o5 : u5.ownsRow w3.heap.size 5 1 v5 bs.length (b8s bs) := by simpa using o5
  rw [HL.out] at o5
  have k5 : Still w3 u5 := Only.trans ((Still.refl w3).alloc _) (Only.of_grown g5) (fun i hi e => by
    injection e with e
    simp only at e
    omega)
  obtain ⟨b5, d5, rfl⟩ : ∃ b5 d5, v5 = .slice (some ⟨b5, 0, none⟩) 64 d5 := by
    rcases id o5.2 with ⟨_, h0⟩ | ⟨g, cap, cur, e, _⟩
    · omega
    · exact ⟨g, cap, e⟩
  have hl64 := HL.out
  have cc : u5.cell? ⟨b5, k, none⟩ = some (.int .u8 (ck.toNat : Int)) := by
    rw [World.ownsRow.cellAt o5 k (by omega), b8s_get (by omega), ← HCK.out]
    rfl
  have fc := World.ownsRow.frozenAt o5 k
  have o6 := (World.ownsRow.stored o5 k (b8 (ck ^^^ d))).1
  have hb5 := (o5.lt b5 rfl).1
  have k6 : Still w3 (u5.setCell ⟨b5, k, none⟩ (b8 (ck ^^^ d))) := k5.set (p := ⟨b5, k, none⟩) hb5 _
  have hs6 : SlIs (u5.setCell ⟨b5, k, none⟩ (.int .u8 ((ck ^^^ d).toNat : Int))) w3.heap.size (u5.setCell ⟨b5, k, none⟩ (.int .u8 ((ck ^^^ d).toNat : Int))).heap.size (.slice (some ⟨b5, 0, none⟩) 64 d5) (bs.set k (ck ^^^ d)) := by
    have o7 : (u5.setCell ⟨b5, k, none⟩ (b8 (ck ^^^ d))).ownsRow w3.heap.size 5 1 (.slice (some ⟨b5, 0, none⟩) 64 d5) (bs.set k (ck ^^^ d)).length (b8s (bs.set k (ck ^^^ d))) := by
      rw [List.length_set, HL.out]
      simpa [b8s, List.map_set] using o6
    exact owns_SlIs o7
  have i1 : (k : Int) < 64 := by omega
  have R6 := Lib.hid (K3.out.trans k6)
  have HS6 := Lib.hid hs6
  have P6 := Lib.hid (k6.has P3.out)
  generalize ck ^^^ d = dk at *
  clear o5 g5 k5 o6 k6 hs6 H1 H2 HCK P3 K3
  by_cases hI : isI (bs.set k dk)
  · have D := Lib.hid (idecode_yes hI _ _ _ _ HS6.out (Nat.le_refl _))
    have qn := HB.out _ HNE.out hI
    have ZX := Lib.hid (readI (bs.set k dk)).cells_size
    have OX := Lib.hid (readI (bs.set k dk)).cells_one
    generalize (readI (bs.set k dk)).cells = cx at *
    clear hI HB HNE HS6 ZI
    go_wp2_with fail
    refine D.out.mono ?_
    rintro e u7 ⟨rfl, k7⟩
    have X7 := Lib.hid (Has.new u7 26 zs)
    obtain ⟨W, hW⟩ : ∃ W, W = (u7.alloc (.cells zs 26)).setRow u7.heap.size cx := ⟨_, rfl⟩
    have HW := Lib.hid hW.symm
    have kW : Still u7 W := by
      rw [hW]
      exact Only.setRow ((Still.refl u7).alloc _) (fun h => absurd h (Nat.lt_irrefl _)) cx
    have Y7 : Hid (Has W u7.heap.size 26 cx) := Lib.hid (by rw [hW]; exact X7.out.setRow cx)
    have P7 := Lib.hid ((k7.trans kW).has P6.out)
    have R := Lib.hid (R6.out.trans (k7.trans kW))
    clear hW kW k7 D P6 R6 cc fc hd1 hd2 hxo
    go_wp2_with (first
      | (rw [← MZ.out]; refine store_struct Try.inoSize u7.heap.size cx (.tmp 10) (.tmp 49) rfl rfl rfl rfl X7.out ZZ.out ZX.out OX.out ?_; rw [HW.out])
      | (refine load_structG Try.underlying26 rfl Try.inoSize u7.heap.size cx (.tmp 10) rfl rfl rfl Y7.out ZX.out ?_)
      | (refine load_structG Try.underlying26 rfl Try.inoSize w.heap.size cs (.tmp 3) rfl rfl rfl P7.out HZ.out ?_)
      | fail)
    go_ret
    exact ⟨rfl, R.out⟩
  · have D := Lib.hid (idecode_no hI _ _ _ _ HS6.out (Nat.le_refl _) (by rw [List.length_set, HL.out]; decide))
    have OZ : Hid (zs.all (fun x => x.oneCell') = true) := Lib.hid (by rw [ZI.out]; exact I14.zero.cells_one)
    rw [← ZI.out] at D
    clear hI HB HNE HS6
    go_wp2_with fail
    refine D.out.mono ?_
    rintro e u7 ⟨rfl, k7⟩
    have X7 := Lib.hid (Has.new u7 26 zs)
    obtain ⟨W, hW⟩ : ∃ W, W = (u7.alloc (.cells zs 26)).setRow u7.heap.size zs := ⟨_, rfl⟩
    have HW := Lib.hid hW.symm
    have kW : Still u7 W := by
      rw [hW]
      exact Only.setRow ((Still.refl u7).alloc _) (fun h => absurd h (Nat.lt_irrefl _)) zs
    have R := Lib.hid (R6.out.trans (k7.trans kW))
    clear hW kW k7 D P6 R6 cc fc hd1 hd2 hxo
    go_wp2_with (first
      | (rw [← MZ.out]; refine store_struct Try.inoSize u7.heap.size zs (.tmp 10) (.tmp 49) rfl rfl rfl rfl X7.out ZZ.out ZZ.out OZ.out ?_; rw [HW.out])
      | fail)
    go_ret
    exact ⟨rfl, R.out⟩
theorem iturned_any (i : I14) (hi : i.Num) (x y : Nat) (hx : x < 256) (hy : y < 256) (w : World) : Calls Try.prog 6 #[i.val, .int .u8 (x : Int), .int .u8 (y : Int)] w fun e w' => e = .returned (.bool true) ∧ Still w w' := by
  by_cases h : i.May
  · exact iturned_yes i hi h x y hx hy w
  · exact iturned_no i h x y w
end Go.Proofs.Ytjlipfddbpgglaa
