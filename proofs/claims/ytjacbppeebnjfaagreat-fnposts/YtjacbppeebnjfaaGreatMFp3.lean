import Derived.Test.YtjacbppeebnjfaaGreatMPq4
import Derived.Test.YtjacbppeebnjfaaGreatMReadBy
import Derived.ProofKit
import Derived.OpenShut
import Derived.ChangeOld
set_option linter.unusedSimpArgs false
namespace Go.Proofs.YtjacbppeebnjfaaGreat
open Go.RowKit

set_option maxRecDepth 100000 in
set_option maxHeartbeats 8000000 in
theorem fnPosts_any (bs ms : List Int) (ba ma : Option Addr) (bcap mcap : Nat) (w : World) (hba : BytesAt w.heap.size w ba bs) (hbs : BytesIn bs) (hma : BytesAt w.heap.size w ma ms) (hms : BytesIn ms) :
  Calls Tryz.prog 3 #[.slice ba bs.length bcap, .slice ma ms.length mcap] w fun e w' => e = .returned (.bool true) ∧ Below w.heap.size w w' := by
 have HBA := hide hba
 have HMA := hide hma
 clear hba hma
 go_enter Tryz.func3, Tryz.ntmps3
 by_cases h1 : 1048576 < bs.length
 ·have h1' : (1048576 : Int) < (bs.length : Int) := by omega
  go_wp2_with fail
  go_ret
  exact ⟨rfl, Below.refl _ _⟩
 have h1' : ¬ (1048576 : Int) < (bs.length : Int) := by omega
 by_cases h2 : 1048576 < ms.length
 ·have h2' : (1048576 : Int) < (ms.length : Int) := by omega
  go_wp2_with fail
  go_ret
  exact ⟨rfl, Below.refl _ _⟩
 have h2' : ¬ (1048576 : Int) < (ms.length : Int) := by omega
 have hml : ms.length ≤ 1048576 := by omega
 go_wp2_with fail
 refine (drawn_any bs ba bcap _ (unhide HBA) hbs).mono ?_
 rintro e w1 ⟨v, n, zq, zs, zc, t, ta, tc, ok, rfl, hdi, hok, hN1, hZ1, hS1, hB1⟩
 dsimp only [trV]
 have hsm := hdi.small
 have hbk := hdi.back
 have hN1' := hN1
 obtain ⟨a1, a2, k1, k2, rfl, _, _⟩ := hN1
 obtain ⟨N, T, w2, hNe, hTe, hw2, hNw, hTw, hB2⟩ := drawn_boxes 26 32 hN1' hZ1 hS1 hB1
 have HSM := hide hsm
 have HNE := hide hNe
 have HTE := hide hTe
 have HW2 := hide hw2
 have HN2 := hide hNw
 have HT2 := hide hTw
 have HB2 := hide hB2
 have HM2 := hide (bytes_to (unhide HMA) hB2)
 have HB1 := hide hB1
 clear hdi hN1' hZ1 hS1 hB1 hsm hNe hTe hw2 hNw hTw hB2 HBA HMA
 cases ok with
 | false =>
  clear hok
  go_wp2_with fail
  go_ret
  exact ⟨rfl, by rw [← unhide HW2]; exact unhide HB2⟩
 | true =>
  obtain ⟨_, hSR⟩ := hok.1 rfl
  have HSR := hide hSR
  clear hok hSR HB1
  have n0 := (unhide HN2).bn.2.1 0 _ rfl
  have n1 := (unhide HN2).bn.2.1 1 _ rfl
  have nl := (unhide HN2).bn.1
  have hlo := (unhide HSR).1.2.2.1
  go_upto_region 6 with fail
  rw [← unhide HW2, ← unhide HTE, ← unhide HNE]
  clear HW2 HTE HNE
  go_wp2_with fail
  refine (more_any ms _ n zq zs zc ma mcap _ (unhide HN2).net (unhide HN2).lies (unhide HM2) hms (unhide HSM)).mono ?_
  rintro e w3 ⟨u, ts, pv, po, rfl, _, _, _, hpo, hpl, hb3⟩
  obtain ⟨qa, qc, rfl, hpa⟩ := poRow_at hpo
  have HN3 := hide ((unhide HN2).below hb3)
  have HT3 := hide ((unhide HT2).below hb3)
  have HP3 := hide hpa
  have HB3 := hide (below_then (unhide HB2) hb3)
  have HM3 := hide (bytes_to (unhide HM2) hb3)
  clear n0 n1 nl hpo hpa hb3 HN2 HT2 HM2 HB2
  have t3 := (unhide HT3).bt.2.1 3 _ rfl
  have tl := (unhide HT3).bt.1
  obtain ⟨d, hd⟩ : ∃ d, t.long.tdiv 2 = d := ⟨_, rfl⟩
  have hd0 : 0 ≤ d ∧ d ≤ t.long := by rw [← hd]; exact ⟨Int.tdiv_nonneg (by omega) (by omega), Int.tdiv_le_self _ (by omega)⟩
  have hwd : IntKind.i64.wrap d = d := wrap_small (by omega) (by omega)
  obtain ⟨X, hX⟩ : ∃ X, w3.heap.size = X := ⟨_, rfl⟩
  have tX : T < X := by omega
  have hbA : Below w3.heap.size w3 (w3.alloc (.cells #[.int .i64 0, .int .i64 d, .int .i64 t.long] 3)) := bw0
  have hbx : Boxed (w3.alloc (.cells #[.int .i64 0, .int .i64 d, .int .i64 t.long] 3)) X [.int .i64 0, .int .i64 d, .int .i64 t.long] := boxedN _ _ _ (by omega)
  have HZ4 : Hid (Pz n zs a1 a2 zq k1 k2 N t ta tc T (some ⟨X, 0, none⟩) [0, d, t.long] qa po w (w3.alloc (.cells #[.int .i64 0, .int .i64 d, .int .i64 t.long] 3))) := ⟨(unhide HN3).below hbA, (unhide HT3).below hbA, three_ints hbx, (unhide HP3).below hbA, below_then (unhide HB3) hbA⟩
  have HM4 := hide (bytes_to (unhide HM3) hbA)
  clear hbA hbx HN3 HT3 HP3 HB3 HM3
  go_wp2_with fail
  refine (wFar_any ms ma mcap 1 _ (unhide HM4) hml (by omega)).mono ?_
  rintro e w5 ⟨r1, rfl, hr1, hb5⟩
  have HZ5 := hide ((unhide HZ4).below hb5)
  have HM5 := hide (bytes_to (unhide HM4) hb5)
  obtain ⟨a, ha⟩ : ∃ a, r1.tmod 300 = a := ⟨_, rfl⟩
  have ha0 : 0 ≤ a ∧ a < 300 := by rw [← ha, Int.tmod_eq_emod_of_nonneg hr1.1]; omega
  have hwa : IntKind.i64.wrap a = a := wrap_small (by omega) (by omega)
  clear t3 tl tX hb5 HZ4 HM4 hX hd hwd
  go_wp2_with fail
  refine (wFar_any ms ma mcap 4 _ (unhide HM5) hml (by omega)).mono ?_
  rintro e w6 ⟨r2, rfl, hr2, hb6⟩
  have HZ6 := hide ((unhide HZ5).below hb6)
  obtain ⟨b, hb⟩ : ∃ b, r2.tmod 300 = b := ⟨_, rfl⟩
  have hb0 : 0 ≤ b ∧ b < 300 := by rw [← hb, Int.tmod_eq_emod_of_nonneg hr2.1]; omega
  have hwb : IntKind.i64.wrap b = b := wrap_small (by omega) (by omega)
  have hwab : IntKind.i64.wrap (a + b) = a + b := wrap_small (by omega) (by omega)
  clear hb6 HZ5 HM5 ha hwa hr1
  have n0 := (unhide HZ6).nw.bn.2.1 0 _ rfl
  have n1 := (unhide HZ6).nw.bn.2.1 1 _ rfl
  have nl := (unhide HZ6).nw.bn.1
  have t0 := (unhide HZ6).tw.bt.2.1 0 _ rfl
  have t1 := (unhide HZ6).tw.bt.2.1 1 _ rfl
  have t2 := (unhide HZ6).tw.bt.2.1 2 _ rfl
  have t3 := (unhide HZ6).tw.bt.2.1 3 _ rfl
  have t4 := (unhide HZ6).tw.bt.2.1 4 _ rfl
  have tl := (unhide HZ6).tw.bt.1
  go_wp2_with fail
  refine (pzI (unhide HZ6) (unhide HZ6).tw.s (unhide HSM) hbk (by simp) (by omega) _ _ _ (a + b)).mono ?_
  rintro e w7 ⟨gx, ox, cx, rfl, hax7, his7, hb7⟩
  have HZ7 := hide ((unhide HZ6).below hb7)
  have HIS := hide his7
  have HAX7 := hide hax7
  clear n0 n1 nl t0 t1 t2 t3 t4 tl HZ6 hb7 hax7 his7 hb hwb hr2
  have n0 := (unhide HZ7).nw.bn.2.1 0 _ rfl
  have n1 := (unhide HZ7).nw.bn.2.1 1 _ rfl
  have nl := (unhide HZ7).nw.bn.1
  have t0 := (unhide HZ7).tw.bt.2.1 0 _ rfl
  have t1 := (unhide HZ7).tw.bt.2.1 1 _ rfl
  have t2 := (unhide HZ7).tw.bt.2.1 2 _ rfl
  have t3 := (unhide HZ7).tw.bt.2.1 3 _ rfl
  have t4 := (unhide HZ7).tw.bt.2.1 4 _ rfl
  have tl := (unhide HZ7).tw.bt.1
  go_wp2_with fail
  refine (pzS (unhide HZ7) (unhide HZ7).tw.s (unhide HSM) hbk (by simp) (by omega) _ _ _ (a + b)).mono ?_
  rintro e w8 ⟨gw, ow, cw, rfl, haw8, hisw, hb8⟩
  obtain rfl : ox = ow := (unhide HIS).unique hisw
  have hxl := hisw.len
  have HZ8 := hide ((unhide HZ7).below hb8)
  have HAX8 := hide ((unhide HAX7).below hb8)
  have HAW8 := hide haw8
  clear n0 n1 nl t0 t1 t2 t3 t4 tl HZ7 hb8 haw8 hisw HAX7 hwab
  go_wp2_with fail
  go_loopw [85] (fun z wr => ∃ k : Nat, k ≤ ox.length ∧ z = .int .i64 k ∧ Below w8.heap.size w8 wr) (fun z _ => ox.length - (intOf z).toNat)
  case atStart => exact ⟨0, Nat.zero_le _, rfl, Below.refl _ _⟩
  case round =>
   obtain ⟨k, hk, rfl, hbr⟩ := hrel
   rename World => wr
   by_cases hlt : k < ox.length
   ·have hlt' : (k : Int) < (ox.length : Int) := by omega
    obtain ⟨xb, xo, rfl, hxb, c0, c1, c2⟩ := (unhide HAX8).below hbr k hlt
    obtain ⟨yb, yo, rfl, hyb, d0, d1, d2⟩ := (unhide HAW8).below hbr k hlt
    have hxb2 := hxb.2
    have hyb2 := hyb.2
    obtain ⟨p, hp⟩ : ∃ p, ox[k] = p := ⟨_, rfl⟩
    rw [hp] at c0 c1 c2 d0 d1 d2
    obtain ⟨p1, p2, p3⟩ := p
    dsimp only at c0 c1 c2 d0 d1 d2
    clear hp hxb hyb
    go_wp2_with fail
    go_quiet (fail)
    go_wp2_with fail
    exact ⟨⟨k + 1, by omega, by go_num, below_then hbr bw0⟩, by simp [intOf]; omega⟩
   have hlt' : ¬ (k : Int) < (ox.length : Int) := by omega
   have HZr := hide ((unhide HZ8).below hbr)
   have HAXr := hide ((unhide HAX8).below hbr)
   clear HZ8 HAX8 HAW8 hbr hlt hk
   have n0 := (unhide HZr).nw.bn.2.1 0 _ rfl
   have n1 := (unhide HZr).nw.bn.2.1 1 _ rfl
   have nl := (unhide HZr).nw.bn.1
   have t0 := (unhide HZr).tw.bt.2.1 0 _ rfl
   have t1 := (unhide HZr).tw.bt.2.1 1 _ rfl
   have t2 := (unhide HZr).tw.bt.2.1 2 _ rfl
   have t3 := (unhide HZr).tw.bt.2.1 3 _ rfl
   have t4 := (unhide HZr).tw.bt.2.1 4 _ rfl
   have tl := (unhide HZr).tw.bt.1
   go_wp2_with fail
   refine (specMove_any _ n ta tc zq zs zc t a _ (unhide HZr).nw.net (unhide HZr).tw.s.sts (unhide HZr).nw.lies (by omega) (by have := (unhide HSM).pcs; omega) (by have := (unhide HSM).jts; omega) (unhide HSM).hle (unhide HSM).hnm).mono ?_
   rintro e w9 ⟨hmv, hb9⟩
   have HZ9 := hide ((unhide HZr).below hb9)
   have HAX9 := hide ((unhide HAXr).below hb9)
   clear n0 n1 nl t0 t1 t2 t3 t4 tl HZr HAXr hb9 hlt'
   rcases hmv with ⟨_, m, code, joint, bb, bd, oa, oc, rfl, hrun, hsr, _⟩ | ⟨_, rfl⟩
   rotate_left
   ·unfold movedV
    go_wp2_with fail
    go_ret
    exact ⟨rfl, below_then (unhide HZ9).bel bw0⟩
   unfold movedV
   by_cases hc : code = 0
   rotate_left
   ·have hcb : (code != 0) = true := by simpa using hc
    clear hc hrun hsr
    go_wp2_with fail
    go_ret
    exact ⟨rfl, below_then (unhide HZ9).bel bw0⟩
   subst hc
   have HRUN := hide hrun
   have hmx := run_len (netGood (unhide HSR).1.1) (unhide HSR).1.2 ha0.1 hrun
   have HTS := hide (stRow_ts0 (t := ⟨m.s, t.long, m.xs⟩) hsr)
   clear hrun hsr
   obtain ⟨M, hM⟩ : ∃ M, w9.heap.size = M := ⟨_, rfl⟩
   have n0 := (unhide HZ9).nw.bn.2.1 0 _ rfl
   have n1 := (unhide HZ9).nw.bn.2.1 1 _ rfl
   have nl : N < M := by have := (unhide HZ9).nw.bn.1; omega
   have t0 := (unhide HZ9).tw.bt.2.1 0 _ rfl
   have t1 := (unhide HZ9).tw.bt.2.1 1 _ rfl
   have t2 := (unhide HZ9).tw.bt.2.1 2 _ rfl
   have t3 := (unhide HZ9).tw.bt.2.1 3 _ rfl
   have t4 := (unhide HZ9).tw.bt.2.1 4 _ rfl
   have tl : T < M := by have := (unhide HZ9).tw.bt.1; omega
   have hbA : Below w9.heap.size w9 (w9.alloc (.cells #[.int .i64 0, .int .i64 m.far, .int .i64 joint, .int .i64 m.s.piece, .int .i64 m.s.at_, .int .i64 m.s.way, .int .i64 t.long, .slice bb m.xs.length bd, .slice oa m.over.length oc] 46)) := bw0
   have hbx : Boxed (w9.alloc (.cells #[.int .i64 0, .int .i64 m.far, .int .i64 joint, .int .i64 m.s.piece, .int .i64 m.s.at_, .int .i64 m.s.way, .int .i64 t.long, .slice bb m.xs.length bd, .slice oa m.over.length oc] 46)) M [.int .i64 0, .int .i64 m.far, .int .i64 joint, .int .i64 m.s.piece, .int .i64 m.s.at_, .int .i64 m.s.way, .int .i64 t.long, .slice bb m.xs.length bd, .slice oa m.over.length oc] := boxedN _ _ _ (by omega)
   have HZA := hide ((unhide HZ9).below hbA)
   have HAXA := hide ((unhide HAX9).below hbA)
   have HTSA := hide ((unhide HTS).below hbA)
   have HBX := hide hbx
   clear hbA hbx HZ9 HAX9 HTS
   go_wp2_with fail
   refine (pzI (unhide HZA) (unhide HZA).tw.s (unhide HSM) hbk (by simp) (by omega) _ _ _ a).mono ?_
   rintro e w11 ⟨gy, oy, cy, rfl, hay, hisy, hb11⟩
   have HISY := hide hisy
   have hyl := hisy.len
   have HZ11 := hide ((unhide HZA).below hb11)
   have HAX11 := hide ((unhide HAXA).below hb11)
   have HTS11 := hide ((unhide HTSA).below hb11)
   have hbx := (unhide HBX).below hb11
   have HAY11 := hide hay
   clear n0 n1 nl t0 t1 t2 t3 t4 tl HZA HAXA HTSA HBX hb11 hay hisy hM
   have n0 := (unhide HZ11).nw.bn.2.1 0 _ rfl
   have n1 := (unhide HZ11).nw.bn.2.1 1 _ rfl
   have nl := (unhide HZ11).nw.bn.1
   have m3 := hbx.2.1 3 _ rfl
   have m4 := hbx.2.1 4 _ rfl
   have m5 := hbx.2.1 5 _ rfl
   have m6 := hbx.2.1 6 _ rfl
   have m7 := hbx.2.1 7 _ rfl
   have ml := hbx.1
   clear hbx
   go_wp2_with fail
   refine (pzI (unhide HZ11) (unhide HTS11) (unhide HSM) hmx (by simp) (by omega) _ _ _ b).mono ?_
   rintro e w12 ⟨gz, oz, cz, rfl, haz, hisz, hb12⟩
   have hzl := hisz.len
   have HFZ := hide hisz.far
   have hxyz := ps_two (unhide HSR) ha0.1 hb0.1 (by omega) (unhide HRUN) (unhide HIS) (unhide HISY) hisz
   obtain ⟨hlen, hg1, hg2⟩ := later_get hxyz
   have HG1 := hide hg1
   have HG2 := hide hg2
   have HLEN := hide hlen
   have HB12 := hide (below_then (unhide HZ11).bel hb12)
   have HAX12 := hide ((unhide HAX11).below hb12)
   have HAY12 := hide ((unhide HAY11).below hb12)
   have HAZ12 := hide haz
   have hws : IntKind.i64.wrap ((oy.length : Int) + (oz.length : Int)) = (ox.length : Int) := (wrap_small (by omega) (by omega)).trans (by omega)
   clear n0 n1 nl m3 m4 m5 m6 m7 ml HZ11 HAX11 HTS11 HAY11 haz hisz hb12 hxyz hlen hg1 hg2
   go_wp2_with fail
   go_loopw [131] (fun z wr => ∃ k : Nat, k ≤ oy.length ∧ z = .int .i64 k ∧ Below w12.heap.size w12 wr) (fun z _ => oy.length - (intOf z).toNat)
   case atStart => exact ⟨0, Nat.zero_le _, rfl, Below.refl _ _⟩
   case round =>
    obtain ⟨k, hk, rfl, hbr⟩ := hrel
    rename World => wq
    by_cases hlt : k < oy.length
    ·have hlt' : (k : Int) < (oy.length : Int) := by omega
     have hltx : k < ox.length := by have := unhide HLEN; omega
     have hltx' : (k : Int) < (ox.length : Int) := by omega
     obtain ⟨xb, xo, rfl, hxb, c0, c1, c2⟩ := (unhide HAX12).below hbr k hltx
     obtain ⟨yb, yo, rfl, hyb, d0, d1, d2⟩ := (unhide HAY12).below hbr k hlt
     have hxb2 := hxb.2
     have hyb2 := hyb.2
     rw [unhide HG1 k hlt hltx] at c0 c1 c2
     obtain ⟨p, hp⟩ : ∃ p, oy[k] = p := ⟨_, rfl⟩
     rw [hp] at c0 c1 c2 d0 d1 d2
     obtain ⟨p1, p2, p3⟩ := p
     dsimp only at c0 c1 c2 d0 d1 d2
     clear hp hxb hyb
     go_wp2_with fail
     go_quiet (fail)
     go_wp2_with fail
     exact ⟨⟨k + 1, by omega, by go_num, below_then hbr bw0⟩, by simp [intOf]; omega⟩
    have hlt' : ¬ (k : Int) < (oy.length : Int) := by omega
    have HAXq := hide ((unhide HAX12).below hbr)
    have HAZq := hide ((unhide HAZ12).below hbr)
    have HBq := hide (below_then (unhide HB12) hbr)
    clear HAX12 HAY12 HAZ12 HB12 hbr hlt hk
    go_wp2_with fail
    go_loopw [145] (fun z wr => ∃ k : Nat, k ≤ oz.length ∧ z = .int .i64 k ∧ Below wq.heap.size wq wr) (fun z _ => oz.length - (intOf z).toNat)
    case atStart => exact ⟨0, Nat.zero_le _, rfl, Below.refl _ _⟩
    case round =>
     clear hlt'
     obtain ⟨k, hk, rfl, hbr⟩ := hrel
     rename World => wp
     by_cases hlt : k < oz.length
     ·have hlt' : (k : Int) < (oz.length : Int) := by omega
      have hltx : oy.length + k < ox.length := by have := unhide HLEN; omega
      obtain ⟨xb, xo, rfl, hxb, c0, c1, c2⟩ := (unhide HAXq).below hbr (oy.length + k) hltx
      obtain ⟨yb, yo, rfl, hyb, d0, d1, d2⟩ := (unhide HAZq).below hbr k hlt
      have hxb2 := hxb.2
      have hyb2 := hyb.2
      rw [unhide HG2 k hlt hltx] at c0 c1 c2
      obtain ⟨p, hp⟩ : ∃ p, oz[k] = p := ⟨_, rfl⟩
      rw [hp] at c0 c1 c2 d0 d1 d2
      obtain ⟨p1, p2, p3⟩ := p
      obtain ⟨j, hj⟩ : ∃ j, oy.length + k = j := ⟨_, rfl⟩
      rw [hj] at c0 c1 c2 hltx
      have hjx : (j : Int) < (ox.length : Int) := by omega
      have hwj : IntKind.i64.wrap ((oy.length : Int) + (k : Int)) = (j : Int) := (wrap_small (by omega) (by omega)).trans (by omega)
      dsimp only at c0 c1 c2 d0 d1 d2
      have hpf := unhide HFZ (p1, p2, p3) (by rw [← hp]; exact List.getElem_mem hlt)
      have hwp : IntKind.i64.wrap (p1 + a) = p1 + a := wrap_small (by dsimp only at hpf; omega) (by dsimp only at hpf; omega)
      clear hp hxb hyb hj hpf
      go_wp2_with fail
      go_quiet (fail)
      go_wp2_with fail
      exact ⟨⟨k + 1, by omega, by go_num, below_then hbr bw0⟩, by simp [intOf]; omega⟩
     have hlt' : ¬ (k : Int) < (oz.length : Int) := by omega
     have HBp := hide (below_then (unhide HBq) hbr)
     clear hbr hlt hk
     go_wp2_with fail
     go_ret
     exact ⟨rfl, unhide HBp⟩
end Go.Proofs.YtjacbppeebnjfaaGreat

namespace Go.Proofs.YtjacbppeebnjfaaGreat
open Go.ChangeShapes Go.WideShapes Go.ChangeAt Go.RowKit

theorem own : ownKnob Tryz.prog.godebug = none := by kernel_rfl
theorem laidOut : laidOutB Tryz.prog = true := by kernel_rfl

set_option maxRecDepth 100000 in
theorem fnposts_lifted (os : Os) (started : os.Started) (H : Type) (enc : TypeId × Value → H) :
  ReturnsInHanded {} Tryz.checked os 3 .any (Rows.fnPostsSpec.pre6 enc Tryz.prog Tryz.f3 Rows.fnPostsRow.domain false) (Rows.fnPostsSpec.post enc Tryz.prog Tryz.f3 false true false false) := by
 refine returnsInHanded_of_change (C := Tryz.checked) own started (by kernel_rfl) Tryz.func3
  (ChangeSpec.witness6 (enc := enc) (C := Tryz.checked) false ⟨#[], #[.slice none 0 0, .slice none 0 0], []⟩ 8 (by kernel_rfl) (by kernel_rfl) (by kernel_rfl) (by kernel_rfl)) ?_
 intro W base args ds gs before hval0 hW _ _
 have hval : ∀ (j : Nat) t v, Tryz.f3.params[j]? = some t → args[j]? = some v → Value.okWide Tryz.prog W .any base t v := hval0
 have hW' := hW
 obtain ⟨p, q, hA0, hV, rfl, hfz, hnd⟩ := hW
 have hA : DataW.TrodAll enc Tryz.prog W 0 (fun _ => true) true Tryz.f3.params.toList args.toList ds p := hA0
 rw [Tryz.params3] at hA hval
 obtain ⟨v0, vs0, d0, ds0, p0, q0, hargs, rfl, rfl, h0, r0⟩ := trodAll_cons hA
 obtain ⟨v1, vs1, d1, ds1, p1, q1, rfl, rfl, rfl, h1, r1⟩ := trodAll_cons r0
 obtain ⟨rfl, rfl, rfl⟩ := trodAll_nil r1
 obtain rfl : args = #[v0, v1] := by cases args; simp_all
 obtain ⟨rfl, rfl⟩ := trodVars_none hV
 have k0 := h0
 have lt0 : ∀ x ∈ p0, x.block < W.heap.size := by obtain ⟨m, hm⟩ := k0; exact DataW.trod_lt m _ _ _ hm
 obtain ⟨a0, cap0, bs0, rfl, hb0, hi0⟩ := readBytesV (hval 0 22 v0 rfl rfl) h0
 have k1 := h1
 have lt1 : ∀ x ∈ p1, x.block < W.heap.size := by obtain ⟨m, hm⟩ := k1; exact DataW.trod_lt m _ _ _ hm
 obtain ⟨a1, cap1, bs1, rfl, hb1, hi1⟩ := readBytesV (hval 1 22 v1 rfl rfl) h1
 clear hA0 hval0
 refine (fnPosts_any bs0 bs1 a0 a1 cap0 cap1 W hb0 hi0 hb1 hi1).mono fun e W' ⟨he, bel⟩ => ?_
 subst he
 exact ⟨_, rfl, _, _, _, [], _, [], hW', trodAll_mk1 (shut_bool Tryz.underlying4 _), (trodAll_cons_mk (Below.trod laidOut (by kernel_rfl) (of_decide_eq_true (by kernel_rfl)) k0 bel lt0) (trodAll_cons_mk (Below.trod laidOut (by kernel_rfl) (of_decide_eq_true (by kernel_rfl)) k1 bel lt1) trodAll_mk0)), rfl, bel.frame _, fun h => by cases h⟩

theorem fnposts_over : Rows.fnPostsRow.holds Tryz.pinned (OpenSpec.ofChange Rows.fnPostsSpec) :=
 OpenClaim.holds_of_wide 3 Tryz.f3 rfl rfl rfl rfl rfl rfl rfl ⟨rfl, rfl, rfl, rfl, rfl⟩ rfl rfl rfl rfl rfl (by kernel_rfl) Tryz.func3 (by kernel_rfl)
  (of_decide_eq_true (by kernel_rfl)) (by unfold Func.isWrapper; first | (rw [if_pos (by decide +kernel)]; kernel_rfl) | (rw [if_neg (by decide +kernel)]; exact ⟨rfl, rfl⟩))
  (fun os started H enc _ => fnposts_lifted os started H enc)

theorem fnposts_holds : Rows.FnPostsSaid := fnposts_over
#print axioms fnposts_holds
end Go.Proofs.YtjacbppeebnjfaaGreat

