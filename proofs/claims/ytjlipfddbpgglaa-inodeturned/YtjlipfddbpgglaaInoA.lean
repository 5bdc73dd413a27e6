/-
  Package inode: inodes, their bytes, what bytes tell; nothing of it is walked here.
-/
import Derived.Test.YtjlipfddbpgglaaNumI
import Derived.Test.YtjlipfddbpgglaaStill
import Derived.Test.YtjlipfddbpgglaaCopyB
namespace Go.Proofs.Ytjlipfddbpgglaa
open Go.RowKit Go.Lib
set_option maxRecDepth 100000

/-- An inode: Mode, Vers, Size, Links, Direct, Single, Double. -/
structure I14 where
  m : Nat
  v : Nat
  s : Nat
  l : Nat
  d0 : Nat
  d1 : Nat
  d2 : Nat
  d3 : Nat
  d4 : Nat
  d5 : Nat
  d6 : Nat
  d7 : Nat
  a : Nat
  b : Nat
deriving DecidableEq
def I14.zero : I14 := ⟨0, 0, 0, 0, 0, 0, 0, 0, 0, 0, 0, 0, 0, 0⟩
def I14.cells (i : I14) : Array Value := #[.int .u32 (i.m : Int), .int .u32 (i.v : Int), .int .u32 (i.s : Int), .int .u16 (i.l : Int), .int .u32 (i.d0 : Int), .int .u32 (i.d1 : Int), .int .u32 (i.d2 : Int), .int .u32 (i.d3 : Int),
  .int .u32 (i.d4 : Int), .int .u32 (i.d5 : Int), .int .u32 (i.d6 : Int), .int .u32 (i.d7 : Int), .int .u32 (i.a : Int), .int .u32 (i.b : Int)]
def I14.val (i : I14) : Value := .agg i.cells
theorem I14.cells_size (i : I14) : i.cells.size = 14 := rfl
theorem I14.cells_one (i : I14) : i.cells.all (fun x => x.oneCell') = true := by simp [I14.cells, Value.oneCell']
/-- Each number is of its type. -/
structure I14.Num (i : I14) : Prop where
  m : i.m < 4294967296
  v : i.v < 4294967296
  s : i.s < 4294967296
  l : i.l < 65536
  d0 : i.d0 < 4294967296
  d1 : i.d1 < 4294967296
  d2 : i.d2 < 4294967296
  d3 : i.d3 < 4294967296
  d4 : i.d4 < 4294967296
  d5 : i.d5 < 4294967296
  d6 : i.d6 < 4294967296
  d7 : i.d7 < 4294967296
  a : i.a < 4294967296
  b : i.b < 4294967296
/-- Each number may be. -/
structure I14.May (i : I14) : Prop where
  s : i.s ≤ 1073741824
  l : i.l ≤ 1000
  d0 : i.d0 ≤ 65535
  d1 : i.d1 ≤ 65535
  d2 : i.d2 ≤ 65535
  d3 : i.d3 ≤ 65535
  d4 : i.d4 ≤ 65535
  d5 : i.d5 ≤ 65535
  d6 : i.d6 ≤ 65535
  d7 : i.d7 ≤ 65535
  a : i.a ≤ 65535
  b : i.b ≤ 65535
open Classical in
/-- What Check tells. -/
noncomputable def I14.chk (i : I14) : Int := if i.May then 0 else 1
theorem I14.chk_yes {i : I14} (h : i.May) : i.chk = 0 := if_pos h
theorem I14.chk_no {i : I14} (h : ¬ i.May) : i.chk = 1 := if_neg h
theorem I14.chk_may {i : I14} (h : i.chk = 0) : i.May := Classical.byContradiction fun hn => absurd (h.symm.trans (chk_no hn)) (by decide)
theorem I14.zero_may : I14.zero.May := by constructor <;> decide

/-! ### bytes -/
/-- The two ahead of the links' gap, and so on: an inode's numbers in bytes. -/
def I14.nums (i : I14) : List UInt8 := putB 4 i.m ++ putB 4 i.v ++ putB 4 i.s ++ putB 2 i.l ++ [0, 0] ++ putB 4 i.d0 ++ putB 4 i.d1 ++ putB 4 i.d2 ++ putB 4 i.d3 ++ putB 4 i.d4 ++ putB 4 i.d5 ++ putB 4 i.d6 ++ putB 4 i.d7 ++ putB 4 i.a ++ putB 4 i.b
def I14.bytes (i : I14) : List UInt8 := putB 4 i.m ++ (putB 4 i.v ++ (putB 4 i.s ++ (putB 2 i.l ++ ([0, 0] ++ (putB 4 i.d0 ++ (putB 4 i.d1 ++ (putB 4 i.d2 ++ (putB 4 i.d3 ++ (putB 4 i.d4 ++ (putB 4 i.d5 ++ (putB 4 i.d6 ++ (putB 4 i.d7 ++ (putB 4 i.a ++ (putB 4 i.b ++ [0, 0, 0, 0, 0, 0, 0, 0]))))))))))))))
theorem I14.nums_length (i : I14) : i.nums.length = 56 := by simp [I14.nums, putB_length]
theorem I14.bytes_length (i : I14) : i.bytes.length = 64 := by simp [I14.bytes, putB_length]
theorem I14.bytes_is (i : I14) : cpy 64 i.nums = i.bytes := by
  unfold cpy
  rw [List.take_of_length_le (by rw [i.nums_length]; decide), i.nums_length]
  simp [I14.nums, I14.bytes, List.replicate]

/-! ### what bytes tell -/
def tv (n : Int) (t : List UInt8 × Int) : Nat := (takeSt n t.1 t.2).1
def tk (n : Int) (t : List UInt8 × Int) : List UInt8 × Int := (takeSt n t.1 t.2).2
def rw2 (n : Int) (t : List UInt8 × Int) : List UInt8 × Int := (rawSt n t.1 t.2).2
def q1 (bs : List UInt8) : List UInt8 × Int := tk 4 (bs, 0)
def q2 (bs : List UInt8) : List UInt8 × Int := tk 4 (q1 bs)
def q3 (bs : List UInt8) : List UInt8 × Int := tk 4 (q2 bs)
def q4 (bs : List UInt8) : List UInt8 × Int := tk 2 (q3 bs)
def q5 (bs : List UInt8) : List UInt8 × Int := rw2 2 (q4 bs)
def q6 (bs : List UInt8) : List UInt8 × Int := tk 4 (q5 bs)
def q7 (bs : List UInt8) : List UInt8 × Int := tk 4 (q6 bs)
def q8 (bs : List UInt8) : List UInt8 × Int := tk 4 (q7 bs)
def q9 (bs : List UInt8) : List UInt8 × Int := tk 4 (q8 bs)
def q10 (bs : List UInt8) : List UInt8 × Int := tk 4 (q9 bs)
def q11 (bs : List UInt8) : List UInt8 × Int := tk 4 (q10 bs)
def q12 (bs : List UInt8) : List UInt8 × Int := tk 4 (q11 bs)
def q13 (bs : List UInt8) : List UInt8 × Int := tk 4 (q12 bs)
def q14 (bs : List UInt8) : List UInt8 × Int := tk 4 (q13 bs)
def q15 (bs : List UInt8) : List UInt8 × Int := tk 4 (q14 bs)
def readI (bs : List UInt8) : I14 := ⟨tv 4 (bs, 0), tv 4 (q1 bs), tv 4 (q2 bs), tv 2 (q3 bs), tv 4 (q5 bs), tv 4 (q6 bs), tv 4 (q7 bs), tv 4 (q8 bs), tv 4 (q9 bs), tv 4 (q10 bs), tv 4 (q11 bs), tv 4 (q12 bs), tv 4 (q13 bs), tv 4 (q14 bs)⟩
theorem tv4_lt (t : List UInt8 × Int) : tv 4 t < 4294967296 := takeSt_lt 4 t.1 t.2
theorem tv2_lt (t : List UInt8 × Int) : tv 2 t < 65536 := takeSt_lt 2 t.1 t.2
theorem readI_num (bs : List UInt8) : (readI bs).Num := by
  constructor <;> first | exact tv4_lt _ | exact tv2_lt _
/-- Are these bytes an inode's? -/
def isI (bs : List UInt8) : Prop := (readI bs).May ∧ bs = (readI bs).bytes

theorem tk_item (n x : Nat) (rest : List UInt8) (h1 : 1 ≤ n) (h8 : n ≤ 8) : tk (n : Int) (putB n x ++ rest, 0) = (rest, 0) := by
  unfold tk
  rw [take_item n x rest h1 h8]
theorem tv_item (n x : Nat) (rest : List UInt8) (h1 : 1 ≤ n) (h8 : n ≤ 8) (hx : x < 256 ^ n) : tv (n : Int) (putB n x ++ rest, 0) = x := by
  unfold tv
  rw [take_item n x rest h1 h8, Nat.mod_eq_of_lt hx]
theorem readI_bytes {i : I14} (h : i.Num) : readI i.bytes = i := by
  obtain ⟨m, v, s, l, d0, d1, d2, d3, d4, d5, d6, d7, a, b⟩ := i
  obtain ⟨hm, hv, hs, hl, h0, h1, h2, h3, h4, h5, h6, h7, ha, hb⟩ := h
  simp only at hm hv hs hl h0 h1 h2 h3 h4 h5 h6 h7 ha hb
  have K : ∀ (x : Nat) (rest : List UInt8), tk 4 (putB 4 x ++ rest, 0) = (rest, 0) := fun x rest => tk_item 4 x rest (by decide) (by decide)
  have K2 : ∀ (x : Nat) (rest : List UInt8), tk 2 (putB 2 x ++ rest, 0) = (rest, 0) := fun x rest => tk_item 2 x rest (by decide) (by decide)
  have V : ∀ (x : Nat) (rest : List UInt8), x < 4294967296 → tv 4 (putB 4 x ++ rest, 0) = x := fun x rest hx => tv_item 4 x rest (by decide) (by decide) hx
  have V2 : ∀ (x : Nat) (rest : List UInt8), x < 65536 → tv 2 (putB 2 x ++ rest, 0) = x := fun x rest hx => tv_item 2 x rest (by decide) (by decide) hx
  have R : ∀ rest : List UInt8, rw2 2 ([0, 0] ++ rest, 0) = (rest, 0) := fun rest => congrArg (fun x => x.2) (raw_item [0, 0] rest)
  unfold readI q14 q13 q12 q11 q10 q9 q8 q7 q6 q5 q4 q3 q2 q1 I14.bytes
  simp only [K, K2, R, V _ _ hm, V _ _ hv, V _ _ hs, V2 _ _ hl, V _ _ h0, V _ _ h1, V _ _ h2, V _ _ h3, V _ _ h4, V _ _ h5, V _ _ h6, V _ _ h7, V _ _ ha, V _ _ hb]
/-- What is Encode's is Decode's. -/
theorem isI_bytes {i : I14} (hn : i.Num) (h : i.May) : isI i.bytes := by
  unfold isI
  rw [readI_bytes hn]
  exact ⟨h, rfl⟩
theorem I14.bytes_inj {i j : I14} (hi : i.Num) (hj : j.Num) (h : i.bytes = j.bytes) : i = j := by rw [← readI_bytes hi, h, readI_bytes hj]
end Go.Proofs.Ytjlipfddbpgglaa
