/- JournalReplays: the document's one. -/
import Derived.Test.YtlhpkpedooklnaaDoorJsH
namespace Go.Proofs.YtlhpkpedooklnaaDoor
open Go.RowKit
open JM
theorem step_of_bad {s : St} {l : List Nat} {pos : Nat} (h : recd crcN s.ok (l.drop pos) = .bad) : s.step crcN l pos = .bad := by unfold St.step; rw [h]
theorem step_of_torn {s : St} {l : List Nat} {pos : Nat} (h : recd crcN s.ok (l.drop pos) = .torn) : s.step crcN l pos = .torn := by unfold St.step; rw [h]
theorem mkS_list (x : List Nat) : (mkS x).toList = x.map UInt8.ofNat := by unfold mkS; exact ByteArray.toList_mk _
theorem sum_beq {c : Nat} {x : List Nat} (hc : c < 4294967296) (hx : Byt x) (hl : x.length = 4) : ((mkS (leb 4 c)).toList == (mkS x).toList) = decide (c = le x) := by
  by_cases h : c = le x
  · rw [decide_eq_true h, (sum_eq hc hx hl).2 h]
    simp
  · rw [decide_eq_false h]
    have : ¬ (mkS (leb 4 c)).toList = (mkS x).toList := fun q => h ((sum_eq hc hx hl).1 (by
      rw [mkS_list, mkS_list] at q
      unfold mkS
      rw [q]))
    exact beq_false_of_ne this
theorem ok_small {s : St} {k n len : Nat} (h : s.ok k n len = true) (hb : s.base.length < 100000000) : n ≤ 4611686018427387904 := by
  unfold St.ok at h
  split at h
  · have := of_decide_eq_true h; omega
  · split at h
    · simp only [Bool.or_eq_true, decide_eq_true_eq] at h; omega
    · simp only [Bool.or_eq_true, decide_eq_true_eq] at h; omega
attribute [local go_sem ↓] toSlB toCvS in
set_option maxRecDepth 100000 in
set_option maxHeartbeats 3200000 in
theorem one_any (B g : Nat) (W : World) {cD pos : Nat} {oD : Option Addr} {l : List Nat} (s : St) (hS : RdS B g W s) (hg : g < B) (hB : B ≤ W.heap.size) (hD : ∀ w, Bu B g W w → Bl w (.slice oD l.length cD) l) (hp : pos < l.length) (hlim : l.length ≤ 99999999) (hs : Sok s) (b1 : s.base.length < 100000000) (b2 : s.batches.length < 100000000) (b3 : s.pending.length < 100000000) (b4 : s.first ≤ 4611686018427387904) :
    Calls Tryd.prog 16 #[.pointer (some ⟨g, 0, none⟩), .slice oD l.length cD, .int .i64 (pos : Int)] W (OneP B g W l s pos) := by
  have h0 := hD W (Bu.refl _ _ _)
  obtain ⟨rs, hrs⟩ : ∃ rs, l.drop pos = rs := ⟨_, rfl⟩
  have hrl : rs.length = l.length - pos := by rw [← hrs, List.length_drop]
  have hr0 : 0 < rs.length := by rw [hrl]; exact Nat.sub_pos_of_lt hp
  have hget : ∀ j, l.getD (pos + j) 0 = rs.getD j 0 := fun j => by rw [← hrs]; simp [List.getD]
  obtain ⟨oa, ca, eD, -, -, hbyt, hcl⟩ := h0.cells
  injection eD with e1 e2 e3
  clear e2
  subst e1 e3
  obtain ⟨gd, od, rfl, hgd, hcc⟩ := hcl (Nat.lt_of_le_of_lt (Nat.zero_le _) hp)
  have k0 : W.cell? ⟨gd, od + pos, none⟩ = some (.int .u8 ((rs.getD 0 0 : Nat) : Int)) := by rw [hcc pos hp, ← hget 0]; rfl
  have lp : (pos : Int) < (l.length : Int) := by omega
  have lp0 : (0 : Int) ≤ (pos : Int) := by omega
  have hB0 : RdS B g W s ∧ Bu B g W W := ⟨hS, Bu.refl _ _ _⟩
  by_cases hm : rs.getD 0 0 = 158
  · by_cases h18 : rs.length < 18
    · have hX : s.step crcN l pos = .torn := step_of_torn (by rw [hrs]; unfold recd; rw [if_neg (by rw [hm]; simp), if_pos h18])
      have HF := mkHid (show OneP B g W l s pos (.returned (.tuple #[.int .i64 (pos : Int), .int .i64 1])) W from ⟨Bu.refl _ _ _, by rw [hX]; exact ⟨rfl, hS⟩⟩)
      rw [hm, show ((158 : Nat) : Int) = 158 from rfl] at k0
      have i18 : (l.length : Int) - (pos : Int) < 18 := by omega
      clear hS hD h0 hcc hcl hB0 hget hX
      go_enter Tryd.func16, Tryd.ntmps16
      go_wp2_with fail
      go_ret2
      exact HF.out
    · have h18' : 18 ≤ rs.length := by omega
      rw [hm, show ((158 : Nat) : Int) = 158 from rfl] at k0
      have i18 : ¬ (l.length : Int) - (pos : Int) < 18 := by omega
      have hl18 : pos + 18 ≤ l.length := by omega
      obtain ⟨o14, s14, bl14⟩ := cut_mid h0 pos 14 (by omega) (pos : Int) ((pos : Int) + 14) rfl (by omega)
      obtain ⟨oS, sS, blS⟩ := cut_mid h0 (pos + 14) 4 (by omega) ((pos : Int) + 14) ((pos : Int) + 18) (by omega) (by omega)
      obtain ⟨o8, s8, bl8⟩ := cut_mid h0 (pos + 2) 8 (by omega) ((pos : Int) + 2) ((pos : Int) + 10) (by omega) (by omega)
      obtain ⟨o4, s4, bl4⟩ := cut_mid h0 (pos + 10) 4 (by omega) ((pos : Int) + 10) ((pos : Int) + 14) (by omega) (by omega)
      rw [hrs] at bl14
      rw [← List.drop_drop, hrs] at blS bl8 bl4
      have kd1 : W.cell? ⟨gd, od + (pos + 1), none⟩ = some (.int .u8 ((rs.getD 1 0 : Nat) : Int)) := by rw [hcc (pos + 1) (by omega), ← hget 1]
      have hk256 : rs.getD 1 0 < 256 := by rw [← hget 1]; exact getD_byt hbyt _
      obtain ⟨c1, hc1⟩ : ∃ c, crcN (rs.take 14) = c := ⟨_, rfl⟩
      obtain ⟨x4, hx4⟩ : ∃ x, (rs.drop 14).take 4 = x := ⟨_, rfl⟩
      have bx4 : Byt x4 ∧ x4.length = 4 := by
        rw [← hx4]
        obtain ⟨_, _, _, _, _, hb, _⟩ := blS
        exact ⟨hb, by rw [List.length_take, List.length_drop]; omega⟩
      have hc1l : c1 < 4294967296 := by
        rw [← hc1]
        obtain ⟨_, _, _, _, _, hb, _⟩ := bl14
        exact crc_lt32 _ hb
      have hl14 : (rs.take 14).length = 14 := by rw [List.length_take]; omega
      have CS := sum_doc (rs.take 14) (by omega) (.slice o14 14 (cD - pos)) W bl14
      rw [hc1] at CS
      rw [hx4] at blS
      obtain ⟨y1, hy1⟩ : ∃ y, leb 4 c1 = y := ⟨_, rfl⟩
      rw [hy1] at CS
      have HS := mkHid (And.intro hS hD)
      clear hS hD hB0 hcc hcl hget
      go_enter Tryd.func16, Tryd.ntmps16
      go_wp2_with fail
      refine CS.mono ?_
      rintro e w1 ⟨v1, rfl, ho1, hb1⟩
      clear CS
      dsimp only
      have hu1 : Bu B g W w1 := Bu.below hb1 hB
      have hdr : ∀ m, Below w1.heap.size w1 (w1.drewN m) := fun m => below_drewN (Below.refl _ _) _
      have q1 : ∀ m, (cvS v1).run Tryd.prog (w1.drewN m) = .ok (.string (mkS y1)) (w1.drewN m) := fun m => cv_bl (ho1.bl.below (hdr m))
      have q2 : ∀ m, (cvS (.slice oS 4 (cD - (pos + 14)))).run Tryd.prog (w1.drewN m) = .ok (.string (mkS x4)) (w1.drewN m) := fun m => cv_bl ((blS.below hb1).below (hdr m))
      obtain ⟨S1, hS1⟩ : ∃ S, mkS y1 = S := ⟨_, rfl⟩
      obtain ⟨S2, hS2⟩ : ∃ S, mkS x4 = S := ⟨_, rfl⟩
      rw [hS1] at q1
      rw [hS2] at q2
      have hbq : (S1.toList == S2.toList) = decide (c1 = le x4) := by rw [← hS1, ← hS2, ← hy1]; exact sum_beq hc1l bx4.1 bx4.2
      obtain ⟨ov1, cv1, rfl⟩ := ho1.sl
      have hy14 : y1.length = 4 := by rw [← hy1, leb_len]
      rw [hy14] at q1 ⊢
      replace hdr := mkHid hdr
      replace ho1 := mkHid ho1
      have hrd1 := HS.out.1.below hb1 (by omega)
      by_cases hce : c1 = le x4
      · rw [decide_eq_true hce] at hbq
        replace hce := mkHid hce
        go_wp2_with fail
        go_quiet (fail)
        rename_i nq
        obtain ⟨Y, hY⟩ : ∃ Y, w1.drewN nq = Y := ⟨_, rfl⟩
        have yb : Below W.heap.size W Y := by rw [← hY]; exact hb1.trans ((hdr.out nq).mono hb1.size)
        rw [hY]
        clear hY hdr q1 q2 hu1 hrd1
        have yk : Y.cell? ⟨gd, od + (pos + 1), none⟩ = some (.int .u8 ((rs.getD 1 0 : Nat) : Int)) := (World.cell?_of_block (w := W) (a := ⟨gd, od + (pos + 1), none⟩) (yb.block gd hgd)).trans kd1
        have yS := HS.out.1.below yb (by omega)
        have C8 := low_any _ _ Y (bl8.below yb) (by rw [List.length_take]; omega)
        have C4 := low_any _ _ Y (bl4.below yb) (by rw [List.length_take]; omega)
        obtain ⟨k, hk⟩ : ∃ k, rs.getD 1 0 = k := ⟨_, rfl⟩
        obtain ⟨n, hn⟩ : ∃ n, le ((rs.drop 2).take 8) = n := ⟨_, rfl⟩
        obtain ⟨len, hlen⟩ : ∃ n, le ((rs.drop 10).take 4) = n := ⟨_, rfl⟩
        have hlenl : len < 4294967296 := by
          rw [← hlen]
          obtain ⟨_, _, _, _, _, hb, _⟩ := bl4
          have := le_lt _ hb
          rw [List.length_take, List.length_drop, Nat.min_eq_left (by omega)] at this
          exact this
        rw [hk] at yk hk256
        rw [hn] at C8
        rw [hlen, show lowN len = (len : Int) by unfold lowN; rw [if_pos (by omega)]] at C4
        obtain ⟨ab, at_, ap, cb, ct, cp, P, yr, yrest⟩ := yS
        have CF := fits_any Y yr (by omega) (by omega) (by omega) k n len
        obtain ⟨ln, hln⟩ : ∃ ln, lowN n = ln := ⟨_, rfl⟩
        rw [hln] at C8 CF
        have l1 : (pos : Int) + 1 < (l.length : Int) := by omega
        have l2 : (0 : Int) ≤ (pos : Int) + 1 := by omega
        have eo : ((pos : Int) + 1).toNat = pos + 1 := by omega
        have hY2 := mkHid (And.intro yb (And.intro yr yrest))
        clear yr yrest
        go_wp2_with fail
        refine C8.mono ?_
        rintro e y1' ⟨rfl, rfl⟩
        dsimp only
        clear C8
        go_wp2_with fail
        refine C4.mono ?_
        rintro e y2' ⟨rfl, rfl⟩
        dsimp only
        clear C4
        go_wp2_with fail
        refine CF.mono ?_
        rintro e w2 ⟨rfl, hb2⟩
        dsimp only
        clear CF
        have ub : Below W.heap.size W w2 := hY2.out.1.trans (hb2.mono hY2.out.1.size)
        have hu2 : Bu B g W w2 := Bu.below ub hB
        have hS3 := HS.out.1.below ub (by omega)
        cases hok : s.ok k n len with
        | false =>
          have hX : s.step crcN l pos = .bad := step_of_bad (by rw [hrs]; unfold recd; rw [if_neg (by rw [hm]; simp), if_neg h18, if_pos (.inr (by rw [hk, hn, hlen]; exact hok))])
          have HF := mkHid (show OneP B g W l s pos (.returned (.tuple #[.int .i64 (pos : Int), .int .i64 2])) w2 from ⟨hu2, by rw [hX]; exact ⟨rfl, hS3⟩⟩)
          clear hX hS3 hu2 ub
          go_wp2_with fail
          go_ret2
          exact HF.out
        | true =>
          have hn62 := ok_small hok b1
          have hln2 : ln = (n : Int) := by rw [← hln]; unfold lowN; rw [if_pos hn62]
          subst hln2
          by_cases h22 : rs.length < 22 + len
          · have hX : s.step crcN l pos = .torn := step_of_torn (by rw [hrs]; unfold recd; rw [if_neg (by rw [hm]; simp), if_neg h18, if_neg (by rw [hk, hn, hlen, hc1, hx4]; rintro (h | h); exact h hce.out; rw [hok] at h; cases h), if_pos (by rw [hlen]; exact h22)])
            have HF := mkHid (show OneP B g W l s pos (.returned (.tuple #[.int .i64 (pos : Int), .int .i64 1])) w2 from ⟨hu2, by rw [hX]; exact ⟨rfl, hS3⟩⟩)
            have i22 : (l.length : Int) - (pos : Int) < 22 + (len : Int) := by omega
            clear hX hS3 hu2 ub
            go_wp2_with fail
            go_ret2
            exact HF.out
          · have i22 : ¬ (l.length : Int) - (pos : Int) < 22 + (len : Int) := by omega
            have hl22 : pos + 22 + len ≤ l.length := by omega
            obtain ⟨oB, sB, blB⟩ := cut_mid h0 (pos + 18) len (by omega) ((pos : Int) + 18) ((pos : Int) + 18 + (len : Int)) (by omega) (by omega)
            obtain ⟨oE, sE, blE⟩ := cut_mid h0 (pos + 18 + len) 4 (by omega) ((pos : Int) + 22 + (len : Int) - 4) ((pos : Int) + 22 + (len : Int)) (by omega) (by omega)
            rw [← List.drop_drop, hrs] at blB
            rw [show pos + 18 + len = pos + (18 + len) by omega] at sE blE
            rw [← List.drop_drop, hrs] at blE
            obtain ⟨body, hbody⟩ : ∃ x, (rs.drop 18).take len = x := ⟨_, rfl⟩
            obtain ⟨x5, hx5⟩ : ∃ x, (rs.drop (18 + len)).take 4 = x := ⟨_, rfl⟩
            rw [hbody] at blB
            rw [hx5] at blE
            have hbl : body.length = len := by rw [← hbody, List.length_take, List.length_drop]; omega
            have bx5 : Byt x5 ∧ x5.length = 4 := by
              rw [← hx5]
              refine ⟨?_, by rw [List.length_take, List.length_drop]; omega⟩
              rw [hx5]
              obtain ⟨_, _, _, _, _, hb, _⟩ := blE
              exact hb
            obtain ⟨c2, hc2⟩ : ∃ c, crcN body = c := ⟨_, rfl⟩
            have hc2l : c2 < 4294967296 := by
              rw [← hc2]
              obtain ⟨_, _, _, _, _, hb, _⟩ := blB
              exact crc_lt32 _ hb
            have CS2 := sum_doc body (by omega) (.slice oB len (cD - (pos + 18))) w2 (blB.below ub)
            rw [hc2] at CS2
            obtain ⟨y5, hy5⟩ : ∃ y, leb 4 c2 = y := ⟨_, rfl⟩
            rw [hy5] at CS2
            have hy54 : y5.length = 4 := by rw [← hy5, leb_len]
            have HU := mkHid (And.intro ub (And.intro hu2 hS3))
            clear ub hu2 hS3 hY2 yb yk
            go_wp2_with fail
            refine CS2.mono ?_
            rintro e w3 ⟨v3, rfl, ho3, hb3⟩
            clear CS2
            dsimp only
            have ub3 : Below W.heap.size W w3 := HU.out.1.trans (hb3.mono HU.out.1.size)
            have hdr : ∀ m, Below w3.heap.size w3 (w3.drewN m) := fun m => below_drewN (Below.refl _ _) _
            have q1 : ∀ m, (cvS v3).run Tryd.prog (w3.drewN m) = .ok (.string (mkS y5)) (w3.drewN m) := fun m => cv_bl (ho3.bl.below (hdr m))
            have q2 : ∀ m, (cvS (.slice oE 4 (cD - (pos + (18 + len))))).run Tryd.prog (w3.drewN m) = .ok (.string (mkS x5)) (w3.drewN m) := fun m => cv_bl ((blE.below ub3).below (hdr m))
            obtain ⟨S3, hS3⟩ : ∃ S, mkS y5 = S := ⟨_, rfl⟩
            obtain ⟨S4, hS4⟩ : ∃ S, mkS x5 = S := ⟨_, rfl⟩
            rw [hS3] at q1
            rw [hS4] at q2
            have hbq2 : (S3.toList == S4.toList) = decide (c2 = le x5) := by rw [← hS3, ← hS4, ← hy5]; exact sum_beq hc2l bx5.1 bx5.2
            obtain ⟨ov3, cv3, rfl⟩ := ho3.sl
            rw [hy54] at q1 ⊢
            replace hdr := mkHid hdr
            replace ho3 := mkHid ho3
            by_cases hce2 : c2 = le x5
            · rw [decide_eq_true hce2] at hbq2
              replace hce2 := mkHid hce2
              go_wp2_with fail
              go_quiet (fail)
              obtain ⟨Y2, hY2⟩ : ∃ Y, w3.drewN nq = Y := ⟨_, rfl⟩
              have y2b : Below W.heap.size W Y2 := by rw [← hY2]; exact ub3.trans ((hdr.out nq).mono ub3.size)
              rw [hY2]
              clear hY2 hdr q1 q2
              have hrec : recd crcN s.ok (l.drop pos) = .got ⟨k, n, body⟩ := by
                rw [hrs]; unfold recd
                rw [if_neg (by rw [hm]; simp), if_neg h18, if_neg (by rw [hk, hn, hlen, hc1, hx4]; rintro (h | h); exact h hce.out; rw [hok] at h; cases h), if_neg (by rw [hlen]; exact h22), if_neg (by rw [hlen, hbody, hc2, hx5]; exact fun h => h hce2.out), hk, hn, hlen, hbody]
              have CT := takes_any B g Y2 s (.slice oB len (cD - (pos + 18))) body k n (pos + 22 + len) (HS.out.1.below y2b (by omega)) hg (Nat.le_trans hB y2b.size) (blB.below y2b) (by unfold LIM; omega) (by rw [hbl]; exact hok) hs b1 b2 b3
              rw [show ((pos + 22 + len : Nat) : Int) = (pos : Int) + 22 + (len : Int) by omega] at CT
              have hu5 : Bu B g W Y2 := Bu.below y2b hB
              replace hrec := mkHid hrec
              go_wp2_with fail
              refine CT.mono ?_
              rintro e w5 ⟨hu6, hm6⟩
              clear CT
              have hst : s.step crcN l pos = match s.take ⟨k, n, body⟩ (pos + 22 + len) with
                  | none => .bad
                  | some s' => .got (s', pos + 22 + len) := by
                unfold St.step
                rw [hrec.out]
                dsimp only
                rw [hbl]
                rfl
              cases htk : s.take ⟨k, n, body⟩ (pos + 22 + len) with
              | none =>
                rw [htk] at hm6 hst
                obtain ⟨rfl, hS6⟩ := hm6
                have HF := mkHid (show OneP B g W l s pos (.returned (.tuple #[.int .i64 (pos : Int), .int .i64 2])) w5 from ⟨hu5.trans hu6, by rw [hst]; exact ⟨rfl, hS6⟩⟩)
                clear hst hS6 hu6
                dsimp only
                go_wp2_with fail
                go_ret2
                exact HF.out
              | some s' =>
                rw [htk] at hm6 hst
                obtain ⟨rfl, hS6⟩ := hm6
                have HF := mkHid (show OneP B g W l s pos (.returned (.tuple #[.int .i64 ((pos : Int) + 22 + (len : Int)), .int .i64 0])) w5 from ⟨hu5.trans hu6, by rw [hst]; exact ⟨by show _ = Ending.returned (.tuple #[.int .i64 ((pos + 22 + len : Nat) : Int), .int .i64 0]); rw [show ((pos + 22 + len : Nat) : Int) = (pos : Int) + 22 + (len : Int) by omega], hS6⟩⟩)
                clear hst hS6 hu6
                dsimp only
                go_wp2_with fail
                go_ret2
                exact HF.out
            · rw [decide_eq_false hce2] at hbq2
              replace hce2 := mkHid hce2
              have hX : s.step crcN l pos = .bad := step_of_bad (by
                rw [hrs]; unfold recd
                rw [if_neg (by rw [hm]; simp), if_neg h18, if_neg (by rw [hk, hn, hlen, hc1, hx4]; rintro (h | h); exact h hce.out; rw [hok] at h; cases h), if_neg (by rw [hlen]; exact h22), if_pos (by rw [hlen, hbody, hc2, hx5]; exact hce2.out)])
              have HF := mkHid (fun m => (show OneP B g W l s pos (.returned (.tuple #[.int .i64 (pos : Int), .int .i64 2])) (w3.drewN m) from ⟨Bu.below (ub3.trans ((hdr.out m).mono ub3.size)) hB, by rw [hX]; exact ⟨rfl, HS.out.1.below (ub3.trans ((hdr.out m).mono ub3.size)) (by omega)⟩⟩))
              clear hX
              go_wp2_with fail
              go_quiet (fail)
              go_wp2_with fail
              go_ret2
              exact HF.out _
      · rw [decide_eq_false hce] at hbq
        replace hce := mkHid hce
        have hX : s.step crcN l pos = .bad := step_of_bad (by rw [hrs]; unfold recd; rw [if_neg (by rw [hm]; simp), if_neg h18, if_pos (.inl (by rw [hc1, hx4]; exact hce.out))])
        have HF := mkHid (fun m => (show OneP B g W l s pos (.returned (.tuple #[.int .i64 (pos : Int), .int .i64 2])) (w1.drewN m) from ⟨Bu.below (hb1.trans ((hdr.out m).mono hb1.size)) hB, by rw [hX]; exact ⟨rfl, HS.out.1.below (hb1.trans ((hdr.out m).mono hb1.size)) (by omega)⟩⟩))
        clear hX hrd1
        go_wp2_with fail
        go_quiet (fail)
        go_wp2_with fail
        go_ret2
        exact HF.out _
  · have hX : s.step crcN l pos = .bad := step_of_bad (by rw [hrs]; unfold recd; rw [if_pos ⟨hr0, hm⟩])
    have HF := mkHid (show OneP B g W l s pos (.returned (.tuple #[.int .i64 (pos : Int), .int .i64 2])) W from ⟨Bu.refl _ _ _, by rw [hX]; exact ⟨rfl, hS⟩⟩)
    obtain ⟨kk, hkk⟩ : ∃ kk, rs.getD 0 0 = kk := ⟨_, rfl⟩
    rw [hkk] at k0 hm
    have hk' : ((kk : Int) != 158) = true := by rw [bne, show ((158 : Int)) = ((158 : Nat) : Int) from rfl, beq_int]; simp [hm]
    clear hS hD h0 hcc hcl hB0 hget hX
    go_enter Tryd.func16, Tryd.ntmps16
    go_wp2_with fail
    go_ret2
    exact HF.out
end Go.Proofs.YtlhpkpedooklnaaDoor
