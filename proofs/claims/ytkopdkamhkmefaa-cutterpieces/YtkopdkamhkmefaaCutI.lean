/- Package cutter: what Pieces gives, ranged over. -/
import Derived.Test.YtkopdkamhkmefaaCutD
import Derived.Test.YtkopdkamhkmefaaRngT
namespace Go.Proofs.Ytkopdkamhkmefaa
set_option maxRecDepth 100000
open Go Go.RowKit
set_option linter.unusedVariables false
set_option linter.unusedSimpArgs false
attribute [local go_sem] Oper.semAt_some

/-- What the iterator turns: a Cutter. -/
def PcT (t : TypeId) : Prop := t = 58
/-- What a round is handed: where the chunk begins, how many bytes it has, where they lie. -/
abbrev pcEnc (x : Nat × Nat × Option Addr × Nat) : Array Value := #[.int .i64 (x.1 : Int), .slice x.2.2.1 x.2.1 x.2.2.2]

theorem Ck.keepT {w w' : World} {own : List Nat} {g p d k mn mx Bk : Nat} {G : Nat → Prop} {o : List UInt8} (h : Ck w own g p d k mn mx o) (hk : KeepT PcT Bk G w w') : Ck w' own g p d k mn mx o := by
  obtain ⟨e, hb1⟩ := h.bl
  exact ⟨⟨e, hk.bl hb1 (.inr rfl)⟩, h.deg, h.le, h.no, h.mx1, h.mx2, h.mnx, h.hk⟩
theorem Ck.types {w : World} {own : List Nat} {g p d k mn mx : Nat} {o : List UInt8} (h : Ck w own g p d k mn mx o) {B : Nat} (ho : ∀ j, j ∈ own → B ≤ j) : ∀ j, j ∈ own → B ≤ j ∧ ∃ cs t, Bl w j cs t ∧ PcT t := by
  obtain ⟨e, hb1⟩ := h.bl
  intro j hj
  refine ⟨ho j hj, ?_⟩
  rw [e] at hj
  simp only [List.mem_cons, List.not_mem_nil, or_false] at hj
  subst hj
  exact ⟨_, _, hb1, rfl⟩

set_option maxRecDepth 100000 in
set_option maxHeartbeats 4000000 in
theorem pieces_iter (p k mn mx d : Nat) (l : List UInt8) (gc gb Bk m : Nat) (G : Nat → Prop) (A : Option Addr) (n c : Nat) (w0 : World) (hp : p < 18446744073709551616) (hk : k < 18446744073709551616) (hd : Deg p d) (hok : cutOk p (mn : Int) (mx : Int) = true)
    (bc : Bl w0 gc (cutC p k (mn : Int) (mx : Int)) 24) (bb : Bl w0 gb [.slice A n c] 25) (hs : Sl w0 Bk A n (cb l)) (hc : n ≤ c) (hz : A = none → c = 0) (hn : n ≤ 2000000)
    (hBk : Bk ≤ w0.heap.size) (h2 : gb < Bk ∧ ¬ G gb) (h3 : 0 < n → ∀ ad, A = some ad → ¬ G ad.block) :
    IterT m Try.prog 25 #[.pointer (some ⟨gc, 0, none⟩), .pointer (some ⟨gb, 0, none⟩)] pcEnc PcT (KeepT PcT Bk G) (fun xs => xs.map (fun x => x.2.1) = cutL p d k mn mx l) (fun _ => True) (n + 1) w0 := fun L J Jx W hW hJ hJx hY h0 => by
  obtain ⟨i0, hi, hz0, hz1, hz2⟩ := info_parts u8_info
  obtain ⟨k0, k1, k2, k3⟩ := cutOk_of hok
  have hnl : n = l.length := by rw [← hs.1, cb_len]
  have HNL := Lib.hid hnl
  have HOK := Lib.hid hok
  have HD := Lib.hid hd
  have b1 := bc.next hW
  have b2 := bb.next hW
  have s1 := hs.map_ (w' := W) (fun q hq => World.cell?_of_block (hW.block _ (by omega)))
  have hsz := hW.size
  have HJ := Lib.hid hJ
  have HJx := Lib.hid hJx
  have HY := Lib.hid hY
  clear bc bb hs hnl hok hd hJ hJx hY
  refine callsIn_of_wp Try.func25 rfl trivial ?_ rfl
  simp only [Try.ntmps25, List.size_toArray, List.length_cons, List.length_nil, Nat.reduceAdd, Nat.reduceSub, Array.replicate_succ, Array.replicate_zero, List.push_toArray, List.append_toArray, List.nil_append, List.cons_append]
  gi_wp2_with (first
    | (refine wpListIn_of_one wide_wide (by rintro ⟨a', w', h⟩; obtain ⟨⟨v, hv⟩, _⟩ := h; cases hv) (by intro c h; cases h) rfl ?_; refine wpList_load_mid rfl 24 _ rfl _ _ rfl (cutC p k (mn : Int) (mx : Int)) _ b1.whole Try.underlying24 rfl size_cut ?_; change wpListIn Fence.wide _ _ _ _ _ _ _)
    | fail)
  refine ⟨trivial, (fun h => by cases h), ?_⟩
  refine (wide_wide.calls (cnew_ok p k mn mx d W hp hk HD.out HOK.out)).mono ?_
  rintro e w1 ⟨g, own, rfl, hgo, hck, hb1⟩
  have hJ1 : J [] w1 := HJ.out _ _ _ h0 (Lax.of_below hb1 (Nat.le_refl _))
  have HGO := Lib.hid hgo
  have b2' := b2.next hb1
  have s1' := s1.map_ (w' := w1) (fun q hq => World.cell?_of_block (hb1.block _ (by omega)))
  have hsz1 := hb1.size
  clear h0 b1 b2 s1 hb1 hgo
  gi_wp2
  gi_loopw [6] (fun v wr => ∃ (f : Nat) (pre : List (Nat × Nat × Option Addr × Nat)), v = .int .i64 (f : Int) ∧ f ≤ n ∧ pre.length ≤ f ∧ pre.map (fun x => x.2.1) ++ cutL p d k mn mx (l.drop f) = cutL p d k mn mx l ∧ J pre wr ∧ (f < n → Ck wr own g p d k mn mx []) ∧ Bl wr gb [.slice A n c] 25 ∧ Sl wr Bk A n (cb l) ∧ W.heap.size ≤ wr.heap.size) (fun v _ => n - (intOf v).toNat)
  case atStart => exact ⟨0, [], rfl, Nat.zero_le _, Nat.le_refl _, rfl, hJ1, fun _ => hck, b2', s1', hsz1⟩
  case round =>
    clear hJ1 hck b2' s1' hsz1
    obtain ⟨f, pre, rfl, hf, hpl, hmap, hj, hck, hb, hs, hwz⟩ := hrel
    have c0 : wr.cell? ⟨gb, 0, none⟩ = some (.slice A n c) := hb.cell 0
    by_cases hlt : f < n
    · have f1 : (f : Int) < (n : Int) := by omega
      have f0 : (0 : Int) ≤ (f : Int) := by omega
      have fc : ¬ c = f := by omega
      have fn : f ≤ n := hf
      obtain ⟨ad, rfl, hab, _⟩ := hs.2 (by omega)
      have hdl : 0 < (l.drop f).length := by rw [List.length_drop]; have := HNL.out; omega
      have hsc := sl_cut (k := f) hs hf hc
      rw [if_neg fc, Option.map_some, show (cb l).drop f = cb (l.drop f) by simp [cb]] at hsc
      have hck' := hck hlt
      have HT := Lib.hid (hck'.types HGO.out)
      have HFI := Lib.hid (cfirst_any g p d k mn mx own (l.drop f) wr Bk (some (ad.add f)) (n - f) (c - f) hck' hsc (by omega) (fun _ q e hq => by injection e with e; rw [← e, add_block] at hq; have := HGO.out _ hq; omega) (by omega) (by omega) (by omega))
      obtain ⟨F, hF⟩ : ∃ F, F = cutF p d k mn mx (l.drop f) := ⟨_, rfl⟩
      have hFl := cutF_le p d k mn mx hdl
      have hst := cutL_step p d k mn mx hdl
      rw [← hF] at HFI hFl hst
      rw [List.length_drop] at hFl
      rw [List.drop_drop] at hst
      have hFn : f + F ≤ n := by have := HNL.out; omega
      have hF1 : 1 ≤ F := hFl.1
      have HST := Lib.hid hst
      have HMAP := Lib.hid hmap
      clear hF hFl hst hmap hdl hck hck'
      gi_wp2_with fail
      refine ⟨trivial, (fun h => by cases h), ?_⟩
      refine (wide_wide.calls HFI.out).mono ?_
      rintro e w2 ⟨rfl, hT2, hck2⟩
      have hj2 : J pre w2 := HJ.out _ _ _ hj (Lax.of_turns hT2 hwz HT.out)
      have hb2 := hT2.bl hb (fun hq => by have := HGO.out _ hq; omega)
      have hs2 := hT2.sl hs (by omega) (fun _ q e hq => by injection e with e; rw [← e] at hq; have := HGO.out _ hq; omega)
      have hz2' : W.heap.size ≤ w2.heap.size := Nat.le_trans hwz hT2.size
      have HCK2 := Lib.hid hck2
      clear hj hb hs hwz hT2 c0 HFI HT hsc hck2
      have c0 : w2.cell? ⟨gb, 0, none⟩ = some (.slice (some ad) n c) := hb2.cell 0
      have sF : Sl w2 Bk (some (ad.add f)) F (cb ((l.drop f).take F)) := by
        have h5 := sl_take (h := F) (sl_cut (k := f) hs2 hf hc) (by omega)
        rw [if_neg fc, Option.map_some, show ((cb l).drop f).take F = cb ((l.drop f).take F) by simp [cb]] at h5
        exact h5
      have HCD := Lib.hid (cloned_any ((l.drop f).take F) w2 Bk (some (ad.add f)) F (c - f) sF (by intro h; cases h) (by omega) (by omega) (by omega))
      have g1 : f ≤ f + F := by omega
      have g2 : f + F ≤ c := by omega
      have g3 : f + F - f = F := by omega
      clear sF
      gi_wp2_with (first
        | (refine wpListIn_of_one wide_wide (by rintro ⟨a', w', h⟩; obtain ⟨⟨v, hv⟩, _⟩ := h; cases hv) (by intro c h; cases h) rfl ?_; refine wpList_slice_lh rfl 25 _ _ _ rfl 5 Try.underlying25 u8_size (some ad) n c f (f + F) .i64 .i64 _ _ rfl rfl rfl rfl (by omega) g1 g2 (by intro h; cases h) ?_; intro A5 HA5; obtain rfl : A5 = some (ad.add f) := (by rw [HA5.out, if_neg fc]; rfl); rw [g3]; clear HA5; change wpListIn Fence.wide _ _ _ _ _ _ _)
        | fail)
      refine ⟨trivial, (fun h => by cases h), ?_⟩
      refine (wide_wide.calls HCD.out).mono ?_
      rintro e w3 ⟨X3, d3, rfl, hown3, D4⟩
      have hj3 : J pre w3 := HJ.out _ _ _ hj2 (Lax.of_below D4 hz2')
      obtain ⟨fn, tmps, assign, body, hy, hR⟩ := HY.out pre (f, F, X3, F) w3 hj3 (by omega)
      have hy' : (Instr.yield L #[.int .i64 (f : Int), .slice X3 F F]).run Try.prog w3 = .ok (.round L fn tmps assign body) w3 := hy
      clear c0 hy hj2 hj3 HCD
      gi_wp2_with fail
      refine ⟨(fun h => by cases h), ?_⟩
      refine hR.mono ?_
      clear hy' hR
      rintro e W3 (⟨rfl, hj4, hk4⟩ | ⟨rfl, hjx4⟩)
      · have hb4 := hk4.bl (hb2.next D4) (.inl h2)
        have hs4 := hk4.sl (hs2.map_ (w' := w3) (fun q hq => World.cell?_of_block (D4.block _ (by omega)))) (Nat.le_refl _) (fun hn q e => h3 hn q e)
        have hck4 : f + F < n → Ck W3 own g p d k mn mx [] := fun h => ((HCK2.out (by rw [List.length_drop]; have := HNL.out; omega)).next D4).keepT hk4
        have hmap4 : (pre ++ [(f, F, X3, F)]).map (fun x => x.2.1) ++ cutL p d k mn mx (l.drop (f + F)) = cutL p d k mn mx l := by
          rw [← HMAP.out, HST.out]; simp
        have hz4 : W.heap.size ≤ W3.heap.size := Nat.le_trans hz2' (Nat.le_trans D4.size hk4.size)
        clear hb2 hs2 D4 hk4 HCK2 hown3 hz2'
        gi_wp2
        go_roundw
        case rel => exact ⟨f + F, _, by go_num, hFn, by simp; omega, hmap4, hj4, hck4, hb4, hs4, hz4⟩
        case measure => simp [intOf]; omega
      · clear hb2 hs2 D4 HCK2 hown3 hz2'
        gi_wp2
        refine bodyPost_ret (results_none rfl _ _ _) rfl ?_
        exact ⟨⟨_, rfl⟩, .inr ⟨_, trivial, hjx4⟩⟩
    · have hfn : f = l.length := by have := HNL.out; omega
      have f1 : ¬ (f : Int) < (n : Int) := by omega
      rw [hfn, List.drop_length, cutL_nil, List.append_nil] at hmap
      clear hck hb hs hwz hfn
      gi_wp2
      go_end0
      exact ⟨⟨_, rfl⟩, .inl ⟨pre, hmap, hj⟩⟩

end Go.Proofs.Ytkopdkamhkmefaa
