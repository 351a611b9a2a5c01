/- quarterRound and afterRounds of package cipher. -/
import Derived.Test.YtnhpamfmbledmaaDoorLW
import Derived.Test.YtnhpamfmbledmaaDoorCha
import Derived.Test.YtnhpamfmbledmaaDoorOrdK
import Derived.IntWalk
namespace Go.Proofs.YtnhpamfmbledmaaDoor
open Go.RowKit
set_option linter.unusedVariables false
set_option linter.unusedSimpArgs false

/-- Turn by a literal, its answer under a name. -/
theorem turn_to (x : Nat) (n : Int) (k y : Nat) (w : World) (h1 : x < 4294967296) (hk : turnK n = k) (hy : y = rotN x k) :
    Calls Tryd.prog 38 #[.int .u32 x, .int .i64 n] w fun e w' => e = .returned (.int .u32 (y : Nat)) ∧ w = w' := by
  subst hk; subst hy; exact turn_any x n w h1

theorem add32_int (a b y : Nat) (h : y = add32 a b) : ((a : Int) + (b : Int)) % 4294967296 = (y : Int) := by rw [h]; unfold add32; omega
theorem xor32_int (a b y : Nat) (ha : a < 4294967296) (hb : b < 4294967296) (h : y = a ^^^ b) : bits BinOp.xor IntKind.u32 (a : Int) (b : Int) = (y : Int) := by rw [h]; exact xor32 a b ha hb

theorem results_tmp4 {fn : Func} {t u v x : Tmp} (h : fn.results = #[.tmp t, .tmp u, .tmp v, .tmp x]) (tmps : Array Value) (P : Program) (w : World) :
    (results fn tmps).run P w = .ok (.tuple #[tmps.getD t undef, tmps.getD u undef, tmps.getD v undef, tmps.getD x undef]) w := by
  simp [results, h]

/-- The steps of a quarter round, each under a name. -/
structure QSteps (q r : Q4) where
  a1 : Nat
  x1 : Nat
  d1 : Nat
  c1 : Nat
  x2 : Nat
  b1 : Nat
  x3 : Nat
  x4 : Nat
  h1 : a1 = add32 q.a q.b
  h2 : x1 = q.d ^^^ a1
  h3 : d1 = rotN x1 16
  h4 : c1 = add32 q.c d1
  h5 : x2 = q.b ^^^ c1
  h6 : b1 = rotN x2 12
  h7 : r.a = add32 a1 b1
  h8 : x3 = d1 ^^^ r.a
  h9 : r.d = rotN x3 8
  h10 : r.c = add32 c1 r.d
  h11 : x4 = b1 ^^^ r.c
  h12 : r.b = rotN x4 7
def qsteps (q : Q4) : QSteps q (qr q) := ⟨_, _, _, _, _, _, _, _, rfl, rfl, rfl, rfl, rfl, rfl, rfl, rfl, rfl, rfl, rfl, rfl⟩

set_option maxHeartbeats 400000 in
theorem qround_any (q r : Q4) (w : World) (h : q.ok) (hr : r = qr q) :
    Calls Tryd.prog 34 #[.int .u32 q.a, .int .u32 q.b, .int .u32 q.c, .int .u32 q.d] w fun e w' => e = .returned (.tuple #[.int .u32 r.a, .int .u32 r.b, .int .u32 r.c, .int .u32 r.d]) ∧ w = w' := by
  have st := qsteps q
  have hk := qr_ok q h
  rw [← hr] at st hk
  clear hr
  obtain ⟨ha, hb, hc, hd⟩ := h
  obtain ⟨ka, kb, kc, kd⟩ := hk
  obtain ⟨a1, x1, d1, c1, x2, b1, x3, x4, h1, h2, h3, h4, h5, h6, h7, h8, h9, h10, h11, h12⟩ := st
  obtain ⟨a, b, c, d⟩ := q
  obtain ⟨ra, rb, rc, rd⟩ := r
  dsimp only at *
  have la1 : a1 < 4294967296 := by rw [h1]; exact add32_lt _ _
  have lx1 : x1 < 4294967296 := by rw [h2]; exact xor32_lt hd la1
  have ld1 : d1 < 4294967296 := by rw [h3]; exact rotN_lt _ _ lx1 (by omega)
  have lc1 : c1 < 4294967296 := by rw [h4]; exact add32_lt _ _
  have lx2 : x2 < 4294967296 := by rw [h5]; exact xor32_lt hb lc1
  have lb1 : b1 < 4294967296 := by rw [h6]; exact rotN_lt _ _ lx2 (by omega)
  have lx3 : x3 < 4294967296 := by rw [h8]; exact xor32_lt ld1 ka
  have lx4 : x4 < 4294967296 := by rw [h11]; exact xor32_lt lb1 kc
  have e1 := add32_int _ _ _ h1
  have e2 := xor32_int _ _ _ hd la1 h2
  have e4 := add32_int _ _ _ h4
  have e5 := xor32_int _ _ _ hb lc1 h5
  have e7 := add32_int _ _ _ h7
  have e8 := xor32_int _ _ _ ld1 ka h8
  have e10 := add32_int _ _ _ h10
  have e11 := xor32_int _ _ _ lb1 kc h11
  have H3 := Lib.hid h3
  have H6 := Lib.hid h6
  have H9 := Lib.hid h9
  have H12 := Lib.hid h12
  clear h1 h2 h3 h4 h5 h6 h7 h8 h9 h10 h11 h12
  go_enter Tryd.func34, Tryd.ntmps34
  go_wp2_with fail
  refine (turn_to x1 16 16 d1 _ lx1 (by decide) H3.out).mono ?_
  rintro e w' ⟨rfl, rfl⟩
  go_wp2_with fail
  refine (turn_to x2 12 12 b1 _ lx2 (by decide) H6.out).mono ?_
  rintro e w' ⟨rfl, rfl⟩
  go_wp2_with fail
  refine (turn_to x3 8 8 rd _ lx3 (by decide) H9.out).mono ?_
  rintro e w' ⟨rfl, rfl⟩
  go_wp2_with fail
  refine (turn_to x4 7 7 rb _ lx4 (by decide) H12.out).mono ?_
  rintro e w' ⟨rfl, rfl⟩
  go_wp2
  refine bodyPost_ret (results_tmp4 rfl _ _ _) rfl ?_
  exact ⟨rfl, rfl⟩

end Go.Proofs.YtnhpamfmbledmaaDoor
