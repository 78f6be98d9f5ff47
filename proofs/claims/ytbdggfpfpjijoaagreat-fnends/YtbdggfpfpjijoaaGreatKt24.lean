import Derived.Test.YtbdggfpfpjijoaaGreatG29
import Derived.Test.YtbdggfpfpjijoaaGreatG22
namespace Go.Proofs.YtbdggfpfpjijoaaGreat
open Go.RowKit

def PlaceGood (n : Nt) (zs : List Int) (s : Sp) (long : Int) : Prop := NetRes n 0 0 ∧ LiesFit n.joints zs ∧ SpotOk n s ∧ (1 ≤ long ∧ long ≤ 100000)
def noTr : Tr := ⟨⟨0, 0, 0⟩, 0, []⟩
def PlaceAns (n : Nt) (zs : List Int) (s : Sp) (long : Int) (ok : Bool) (t : Tr) : Prop :=
  (PlaceGood n zs s long ∧ ∃ xs r, LayOk (NxBack n zs) n (behind n s - long) ⟨s.piece, s.way⟩ xs r ∧ ok = true ∧ t = ⟨s, long, xs⟩)
  ∨ ((¬ PlaceGood n zs s long ∨ PlaceGood n zs s long ∧ LayNo (NxBack n zs) n (behind n s - long) ⟨s.piece, s.way⟩) ∧ ok = false ∧ t = noTr)
theorem PlaceAns.unique {n : Nt} {zs : List Int} {s : Sp} {long : Int} {ok ok' : Bool} {t t' : Tr} (h : PlaceAns n zs s long ok t) (g : PlaceAns n zs s long ok' t') : ok = ok' ∧ t = t' := by
  rcases h with ⟨hg, xs, r, hl, rfl, rfl⟩ | ⟨h, rfl, rfl⟩ <;> rcases g with ⟨gg, ys, q, gl, rfl, rfl⟩ | ⟨g, rfl, rfl⟩
  · obtain ⟨rfl, rfl⟩ := layOk_unique (nxBack_fun (netGood hg.1)) hl gl
    exact ⟨rfl, rfl⟩
  · rcases g with g | ⟨_, g⟩
    · exact absurd hg g
    · exact absurd g (layOk_no (nxBack_fun (netGood hg.1)) hl)
  · rcases h with h | ⟨_, h⟩
    · exact absurd gg h
    · exact absurd h (layOk_no (nxBack_fun (netGood gg.1)) gl)
  · exact ⟨rfl, rfl⟩
theorem PlaceAns.len {n : Nt} {zs : List Int} {s : Sp} {long : Int} {ok : Bool} {t : Tr} (h : PlaceAns n zs s long ok t) : t.back.length ≤ 200 := by
  rcases h with ⟨hg, xs, r, ⟨_, hl, _⟩, rfl, rfl⟩ | ⟨h, rfl, rfl⟩
  · exact hl.few
  · simp [noTr]

def RetPl (n : Nt) (zs : List Int) (s : Sp) (long : Int) (base : Nat) (e : Ending) (w' : World) : Prop :=
  ∃ ok t a cap, PlaceAns n zs s long ok t ∧ e = .returned (.agg #[.bool ok, .int .i64 t.front.piece, .int .i64 t.front.at_, .int .i64 t.front.way, .int .i64 t.long, .slice a t.back.length cap]) ∧ StRow w' base (.slice a t.back.length cap) t.back

theorem retPl_no {n : Nt} {zs : List Int} {s : Sp} {long : Int} {base : Nat} {w' : World} (h : ¬ PlaceGood n zs s long ∨ PlaceGood n zs s long ∧ LayNo (NxBack n zs) n (behind n s - long) ⟨s.piece, s.way⟩) :
    RetPl n zs s long base (.returned (.agg #[.bool false, .int .i64 0, .int .i64 0, .int .i64 0, .int .i64 0, .slice none 0 0])) w' :=
  ⟨false, noTr, none, 0, Or.inr ⟨h, rfl, rfl⟩, rfl, Row.nil _ _ _ _ _⟩

theorem below_set6 {B N : Nat} {a w : World} (h : Below B a w) (hN : B ≤ N) (v0 v1 v2 v3 v4 v5 : Value) :
    Below B a ((((((w.setCell ⟨N, 0, none⟩ v0).setCell ⟨N, 1, none⟩ v1).setCell ⟨N, 2, none⟩ v2).setCell ⟨N, 3, none⟩ v3).setCell ⟨N, 4, none⟩ v4).setCell ⟨N, 5, none⟩ v5) :=
  (((((h.setCell (p := ⟨N, 0, none⟩) hN v0).setCell (p := ⟨N, 1, none⟩) hN v1).setCell (p := ⟨N, 2, none⟩) hN v2).setCell (p := ⟨N, 3, none⟩) hN v3).setCell (p := ⟨N, 4, none⟩) hN v4).setCell (p := ⟨N, 5, none⟩) hN v5

set_option maxRecDepth 100000 in
set_option maxHeartbeats 8000000 in
theorem implPlace_any (v : Value) (n : Nt) (zq : Option Addr) (zs : List Int) (zc : Nat) (s : Sp) (long : Int) (w : World) {L L' : Nat} (hv : NetAt L w v n) (hz : IntsAt L' w zq zs)
    (hl : n.pieces.length ≤ 1048576) (hl' : n.joints.length ≤ 1048576) (hle : ∀ i (h : i < n.joints.length), n.joints[i].name.size ≤ maxLen) (hnm : ∀ i (h : i < n.pieces.length), n.pieces[i].name.size ≤ maxLen) :
    Calls Tryz.prog 15 #[v, .slice zq zs.length zc, .agg #[.int .i64 s.piece, .int .i64 s.at_, .int .i64 s.way], .int .i64 long] w fun e w' => RetPl n zs s long w.heap.size e w' ∧ Below w.heap.size w w' := by
  obtain ⟨a, c, ca, cc, rfl, hp, hj⟩ := hv
  go_enter Tryz.func15, Tryz.ntmps15
  go_wp2_with fail
  refine (trackOf_far a c ca cc n _ (L := L) ?hA ?hB hl hl' hle hnm).mono ?_
  case hA => exact hp.below bw0
  case hB => exact hj.below bw0
  rintro e w1 ⟨hret, hb1⟩
  have hbw1 : Below w.heap.size w w1 := below_then bw0 hb1
  have hS1 : Boxed w1 (w.heap.size + 1) [.int .i64 s.piece, .int .i64 s.at_, .int .i64 s.way] := ((boxedN _ _ _ (by simp)).alloc _).below hb1
  have hR1 : Boxed w1 (w.heap.size + 1 + 1) [.bool false, .int .i64 0, .int .i64 0, .int .i64 0, .int .i64 0, .slice none 0 0] := (boxedN _ _ _ (by simp)).below hb1
  have hsz1 := hbw1.size
  rcases hret with ⟨hR, ksh, kcsh, kst, kcst, rfl, hksh, hkst⟩ | ⟨hR, rfl⟩
  rotate_left
  · have r0 := hR1.2.1 0 _ rfl
    have r1 := hR1.2.1 1 _ rfl
    have r2 := hR1.2.1 2 _ rfl
    have r3 := hR1.2.1 3 _ rfl
    have r4 := hR1.2.1 4 _ rfl
    have r5 := hR1.2.1 5 _ rfl
    have rz := hR1.2.2
    have rl := hR1.1
    have HR := hide hR
    clear hR
    go_wp2
    refine bodyPost_ret (v := .agg #[.bool false, .int .i64 0, .int .i64 0, .int .i64 0, .int .i64 0, .slice none 0 0]) (by simp [results, Tryz.results15, go_sem, r0, r1, r2, r3, r4, r5, rl]) rfl ⟨retPl_no (Or.inl fun h => unhide HR h.1), (below_set6 hbw1 (by omega) _ _ _ _ _ _).alloc (below_set6 hbw1 (by omega) _ _ _ _ _ _).size _⟩
  have hG := netGood hR
  have hkk : TrkAt 0 w1 (.agg #[.slice a n.pieces.length ca, .slice ksh n.joints.length kcsh, .slice kst n.pieces.length kcst]) n := ⟨_, _, _, _, _, _, rfl, (hp.below hbw1).mono (Nat.zero_le _), hksh.mono (Nat.zero_le _), hkst.mono (Nat.zero_le _)⟩
  have HR := hide hR
  clear hR hksh hkst
  have hA : Below w1.heap.size w1 (w1.alloc (.cells #[.slice a n.pieces.length ca, .slice ksh n.joints.length kcsh, .slice kst n.pieces.length kcst] 93)) := bw0
  have HKA := hide (hkk.below hA)
  have hbwA := below_then hbw1 hA
  go_wp2_with fail
  refine (liesFit_any _ n _ zs _ _ (unhide HKA) (hz.below hbwA) hl').mono ?_
  rintro e w2 ⟨hF, hb2⟩
  have hbA2 := below_then hA hb2
  have hbw2 := below_then hbw1 hbA2
  have hS2 := hS1.below hbA2
  have hR2 := hR1.below hbA2
  have hK2 : Boxed w2 w1.heap.size [.slice a n.pieces.length ca, .slice ksh n.joints.length kcsh, .slice kst n.pieces.length kcst] := (boxed_alloc _ _ _).below hb2
  have HK2 := hide (hkk.below hbA2)
  have hsz2 := hbw2.size
  rcases hF with ⟨rfl, hF⟩ | ⟨rfl, hF⟩
  rotate_left
  · have HF := hide hF
    clear hF
    have r0 := hR2.2.1 0 _ rfl
    have r1 := hR2.2.1 1 _ rfl
    have r2 := hR2.2.1 2 _ rfl
    have r3 := hR2.2.1 3 _ rfl
    have r4 := hR2.2.1 4 _ rfl
    have r5 := hR2.2.1 5 _ rfl
    have rz := hR2.2.2
    have rl := hR2.1
    go_wp2
    exact bodyPost_ret (v := .agg #[.bool false, .int .i64 0, .int .i64 0, .int .i64 0, .int .i64 0, .slice none 0 0]) (by simp [results, Tryz.results15, go_sem, r0, r1, r2, r3, r4, r5]) rfl ⟨retPl_no (Or.inl fun h => unhide HF h.2.1), below_set6 hbw2 (by omega) _ _ _ _ _ _⟩
  have HF := hide hF
  clear hF
  have q0 := hK2.2.1 0 _ rfl
  have q1 := hK2.2.1 1 _ rfl
  have q2 := hK2.2.1 2 _ rfl
  have s0 := hS2.2.1 0 _ rfl
  have s1 := hS2.2.1 1 _ rfl
  have s2 := hS2.2.1 2 _ rfl
  go_wp2_with fail
  refine (isSpot_any _ n s _ (unhide HK2)).mono ?_
  rintro e w3 ⟨hP, hb3⟩
  have hbw3 := below_then hbw2 hb3
  have hS3 := hS2.below hb3
  have hR3 := hR2.below hb3
  have hK3 := hK2.below hb3
  have HK3 := hide ((unhide HK2).below hb3)
  have hsz3 := hbw3.size
  clear q0 q1 q2 s0 s1 s2
  rcases hP with ⟨rfl, hP⟩ | ⟨rfl, hP⟩
  rotate_left
  · have HP := hide hP
    clear hP
    have r0 := hR3.2.1 0 _ rfl
    have r1 := hR3.2.1 1 _ rfl
    have r2 := hR3.2.1 2 _ rfl
    have r3 := hR3.2.1 3 _ rfl
    have r4 := hR3.2.1 4 _ rfl
    have r5 := hR3.2.1 5 _ rfl
    have rz := hR3.2.2
    have rl := hR3.1
    go_wp2
    exact bodyPost_ret (v := .agg #[.bool false, .int .i64 0, .int .i64 0, .int .i64 0, .int .i64 0, .slice none 0 0]) (by simp [results, Tryz.results15, go_sem, r0, r1, r2, r3, r4, r5]) rfl ⟨retPl_no (Or.inl fun h => unhide HP h.2.2.1), below_set6 hbw3 (by omega) _ _ _ _ _ _⟩
  have HP := hide hP
  clear hP
  go_wp2_with fail
  refine (within_any long 100000 _).mono ?_
  rintro e w4 ⟨hW, rfl⟩
  rcases hW with ⟨rfl, hW⟩ | ⟨rfl, hW⟩
  rotate_left
  · have HW := hide hW
    clear hW
    have r0 := hR3.2.1 0 _ rfl
    have r1 := hR3.2.1 1 _ rfl
    have r2 := hR3.2.1 2 _ rfl
    have r3 := hR3.2.1 3 _ rfl
    have r4 := hR3.2.1 4 _ rfl
    have r5 := hR3.2.1 5 _ rfl
    have rz := hR3.2.2
    have rl := hR3.1
    go_wp2
    exact bodyPost_ret (v := .agg #[.bool false, .int .i64 0, .int .i64 0, .int .i64 0, .int .i64 0, .slice none 0 0]) (by simp [results, Tryz.results15, go_sem, r0, r1, r2, r3, r4, r5]) rfl ⟨retPl_no (Or.inl fun h => unhide HW h.2.2.2), below_set6 hbw3 (by omega) _ _ _ _ _ _⟩
  have HW := hide hW
  clear hW
  have HGOOD : Hid (PlaceGood n zs s long) := ⟨unhide HR, unhide HF, unhide HP, unhide HW⟩
  have q0 := hK3.2.1 0 _ rfl
  have q1 := hK3.2.1 1 _ rfl
  have q2 := hK3.2.1 2 _ rfl
  have s0 := hS3.2.1 0 _ rfl
  have s1 := hS3.2.1 1 _ rfl
  have s2 := hS3.2.1 2 _ rfl
  have kl := hK3.1
  have sl := hS3.1
  have rl := hR3.1
  have ne0 : ¬ w4.heap.size = w1.heap.size := by omega
  have ne1 : ¬ w4.heap.size = w.heap.size + 1 := by omega
  have ne2 : ¬ w1.heap.size = w4.heap.size := by omega
  have ne3 : ¬ w.heap.size + 1 = w4.heap.size := by omega
  go_upto_region 4 with fail
  go_cut [11] (fun p wx => ∃ C, p = .pointer (some ⟨C, 0, none⟩) ∧ w4.heap.size ≤ C ∧ Boxed wx C [.slice a n.pieces.length ca, .slice ksh n.joints.length kcsh, .slice kst n.pieces.length kcst, .slice zq zs.length zc, .int .i64 s.piece, .int .i64 s.way] ∧ Below w4.heap.size w4 wx)
  case first =>
    go_region_held3 (fun w' => w'.cell? ⟨w1.heap.size, 0, none⟩ = some (.slice a n.pieces.length ca) ∧ w'.cell? ⟨w1.heap.size, 1, none⟩ = some (.slice ksh n.joints.length kcsh) ∧ w'.cell? ⟨w1.heap.size, 2, none⟩ = some (.slice kst n.pieces.length kcst)
        ∧ w'.cell? ⟨w.heap.size + 1, 0, none⟩ = some (.int .i64 s.piece) ∧ w'.cell? ⟨w.heap.size + 1, 1, none⟩ = some (.int .i64 s.at_) ∧ w'.cell? ⟨w.heap.size + 1, 2, none⟩ = some (.int .i64 s.way))
      (((try dsimp only); (repeat' apply And.intro)) <;> (go_keep; done))
      (first
        | (go_at_call 51; refine (step_any s _).mono ?_; rintro e w5 ⟨rfl, hb5⟩; obtain ⟨hc5, hf5⟩ := bcell hb5; have sz5 := hb5.size; (try simp at sz5); have ne4 : ¬ w5.heap.size = w1.heap.size := (by omega); have ne5 : ¬ w5.heap.size = w.heap.size + 1 := (by omega); have ne6 : ¬ w1.heap.size = w5.heap.size := (by omega); have ne7 : ¬ w.heap.size + 1 = w5.heap.size := (by omega); have q0 := hc5 (w1.heap.size) (0) (by first | (simp; done) | (simp; omega) | omega); have q1 := hc5 (w1.heap.size) (1) (by first | (simp; done) | (simp; omega) | omega); have q2 := hc5 (w1.heap.size) (2) (by first | (simp; done) | (simp; omega) | omega); have q3 := hc5 (w.heap.size+1) (0) (by first | (simp; done) | (simp; omega) | omega); have q4 := hc5 (w.heap.size+1) (1) (by first | (simp; done) | (simp; omega) | omega); have q5 := hc5 (w.heap.size+1) (2) (by first | (simp; done) | (simp; omega) | omega)))
    all_goals go_wp2_with fail
    all_goals go_meet
    · exact ⟨_, rfl, by omega, boxed_alloc _ _ _, below_then (below_then bw0 hb5) bw0⟩
    · have hZ : Boxed w5 w4.heap.size [.slice none 0 0, .slice none 0 0, .slice none 0 0, .slice none 0 0, .int .i64 0, .int .i64 0] := (boxed_alloc _ _ _).drew.below hb5
      have hbw5 : Below w4.heap.size w4 w5 := below_then bw0 hb5
      have hZ6 := (((((hZ.set (i := 0) (by simp) (.slice a n.pieces.length ca)).set (i := 1) (by simp) (.slice ksh n.joints.length kcsh)).set (i := 2) (by simp) (.slice kst n.pieces.length kcst)).set (i := 3) (by simp) (.slice zq zs.length zc)).set (i := 4) (by simp) (.int .i64 s.piece)).set (i := 5) (by simp) (.int .i64 s.way)
      exact ⟨_, rfl, Nat.le_refl _, hZ6, below_set6 hbw5 (Nat.le_refl _) _ _ _ _ _ _⟩
  case rest =>
    obtain ⟨C, rfl, hC, hBC, hbc⟩ := hcut
    have hbwc := below_then hbw3 hbc
    have hSc := hS3.below hbc
    have hRc := hR3.below hbc
    have hKc := hK3.below hbc
    have hkc := (unhide HK3).below hbc
    have szc := hbc.size
    clear q0 q1 q2 s0 s1 s2 ne0 ne1 ne2 ne3
    have q0 := hKc.2.1 0 _ rfl
    have q1 := hKc.2.1 1 _ rfl
    have q2 := hKc.2.1 2 _ rfl
    have s0 := hSc.2.1 0 _ rfl
    have s1 := hSc.2.1 1 _ rfl
    have s2 := hSc.2.1 2 _ rfl
    have hmf : ∀ (fn : Fn) (first cap : Array Value) (W : World), (Instr.makeFunc fn first cap).run Tryz.prog W = .ok (.func fn first cap) W := fun _ _ _ _ => rfl
    have hCl := hBC.1
    have hz4 := hz.below hbw3
    obtain ⟨k0', k1', k2', hkv', hcall⟩ := lay_any (NxBack n zs) (fun t wb => BackAt n w4 (.slice a n.pieces.length ca) (.slice ksh n.joints.length kcsh) (.slice kst n.pieces.length kcst) (.slice zq zs.length zc) C t wb) 53 C ⟨s.piece, s.way⟩ (.agg #[.slice a n.pieces.length ca, .slice ksh n.joints.length kcsh, .slice kst n.pieces.length kcst]) n s long wc (L := 0) hkc hG (unhide HP) (unhide HW) (fun W => by kernel_rfl) hCl
      (fun wb ho => (unhide HK3).below (hbc.trans (ho.below szc (fun k hk => by omega))))
      ⟨hbc, ⟨(unhide HP).1, (unhide HP).2.1⟩, hBC⟩
      (fun t x y hI hb => hI.kept hb hCl hC)
      (fun t wa hI _ => back_next n w4 (.slice a n.pieces.length ca) (.slice ksh n.joints.length kcsh) (.slice kst n.pieces.length kcst) zq zs zc C t wa (unhide HK3) hz4 hG (unhide HF).1 hC hI)
    simp at hkv'
    obtain ⟨⟨rfl, rfl⟩, ⟨rfl, rfl⟩, rfl, rfl⟩ := hkv'
    have HCALL := hide hcall
    clear hcall
    go_wp2_with fail
    refine (unhide HCALL).mono ?_
    rintro e w6 ⟨hlay, ho⟩
    have hbw6 : Below w.heap.size w w6 := hbwc.trans (ho.below hbwc.size (fun k hk => by omega))
    have hR6 := hRc.only ho (by omega)
    have hsz6 := hbw6.size
    have hzs : Tryz.zeroCells100.size = 412 := by rw [zero_cells, bodyL_size]
    clear q0 q1 q2 s0 s1 s2
    rcases hlay with ⟨xs, r, hok, rfl⟩ | ⟨hno, rfl⟩
    · have hone := bodyL_one (k0 := .slice a n.pieces.length ca) (k1 := .slice ksh n.joints.length kcsh) (k2 := .slice kst n.pieces.length kcst) s long r xs rfl rfl rfl
      have hst6 := store_new w6 _ hzs _ (bodyL_len (.slice a n.pieces.length ca) (.slice ksh n.joints.length kcsh) (.slice kst n.pieces.length kcst) s long r xs) hone
      have hA6 : Below w6.heap.size w6 (w6.alloc (.cells (bodyL (.slice a n.pieces.length ca) (.slice ksh n.joints.length kcsh) (.slice kst n.pieces.length kcst) s long r xs).toArray 100)) := bw0
      have hown6 := own_new w6 (.slice a n.pieces.length ca) (.slice ksh n.joints.length kcsh) (.slice kst n.pieces.length kcst) s long r xs 100
      have hfew : xs.length ≤ 200 := by obtain ⟨_, h1, _⟩ := hok; exact h1.few
      have HGB := hide (gb_of hown6 (by omega))
      have hlB := bodyL_len (.slice a n.pieces.length ca) (.slice ksh n.joints.length kcsh) (.slice kst n.pieces.length kcst) s long r xs
      have HOK := hide hok
      clear hok hown6 hzs
      unfold bodyV
      go_wp2_with fail
      refine (train_any w6.heap.size _ _ _ s long r xs _ (unhide HGB)).mono ?_
      rintro e w7 ⟨ta, tcap, rfl, hrow, hb7⟩
      have hb67 := below_then hA6 hb7
      have hbw7 := below_then hbw6 hb67
      have hR7 := hR6.below hb67
      have HROW := hide (hrow.mono (show w.heap.size ≤ _ by have := (below_then hbw6 hA6).size; simpa using this))
      have HLT := hide hrow.lt
      clear hrow
      have r0 := hR7.2.1 0 _ rfl
      have r1 := hR7.2.1 1 _ rfl
      have r2 := hR7.2.1 2 _ rfl
      have r3 := hR7.2.1 3 _ rfl
      have r4 := hR7.2.1 4 _ rfl
      have r5 := hR7.2.1 5 _ rfl
      have rz := hR7.2.2
      have rl7 := hR7.1
      go_wp2
      refine bodyPost_ret (v := .agg #[.bool true, .int .i64 s.piece, .int .i64 s.at_, .int .i64 s.way, .int .i64 long, .slice ta xs.length tcap]) (by simp [results, Tryz.results15, go_sem, r0, r1, r2, r3, r4, r5]) rfl ⟨⟨true, ⟨s, long, xs⟩, ta, tcap, Or.inl ⟨unhide HGOOD, xs, r, unhide HOK, rfl, rfl⟩, rfl, ?_⟩, below_set6 hbw7 (by omega) _ _ _ _ _ _⟩
      refine (unhide HROW).block fun k hk => ?_
      have hk2 := (unhide HLT k hk).1
      have hk3 : w6.heap.size + 1 ≤ k := by simpa using hk2
      have rl6 := hR6.1
      have hne : k ≠ w.heap.size + 1 + 1 := by omega
      rw [Below.heap_setCell _ _ _ k (by simpa using hne), Below.heap_setCell _ _ _ k (by simpa using hne), Below.heap_setCell _ _ _ k (by simpa using hne), Below.heap_setCell _ _ _ k (by simpa using hne), Below.heap_setCell _ _ _ k (by simpa using hne), Below.heap_setCell _ _ _ k (by simpa using hne)]
    · have hst6 := store_new w6 _ hzs _ (bodyL_len (.slice none 0 0) (.slice none 0 0) (.slice none 0 0) ⟨0, 0, 0⟩ 0 0 []) (bodyL_one _ _ _ _ rfl rfl rfl)
      have hlB := bodyL_len (.slice none 0 0) (.slice none 0 0) (.slice none 0 0) ⟨0, 0, 0⟩ 0 0 []
      have HNO := hide hno
      clear hno hzs
      unfold zeroBody bodyV
      have r0 := hR6.2.1 0 _ rfl
      have r1 := hR6.2.1 1 _ rfl
      have r2 := hR6.2.1 2 _ rfl
      have r3 := hR6.2.1 3 _ rfl
      have r4 := hR6.2.1 4 _ rfl
      have r5 := hR6.2.1 5 _ rfl
      have rz := hR6.2.2
      have rl6 := hR6.1
      go_wp2
      exact bodyPost_ret (v := .agg #[.bool false, .int .i64 0, .int .i64 0, .int .i64 0, .int .i64 0, .slice none 0 0]) (by simp [results, Tryz.results15, go_sem, r0, r1, r2, r3, r4, r5, rl6]) rfl ⟨retPl_no (Or.inr ⟨unhide HGOOD, unhide HNO⟩), (below_set6 hbw6 (by omega) _ _ _ _ _ _).alloc (below_set6 hbw6 (by omega) _ _ _ _ _ _).size _⟩

end Go.Proofs.YtbdggfpfpjijoaaGreat

