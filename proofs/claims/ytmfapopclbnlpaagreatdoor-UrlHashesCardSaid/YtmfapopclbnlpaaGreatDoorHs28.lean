import Derived.Test.YtmfapopclbnlpaaGreatDoorProg
import Derived.ProofKit
import Derived.Test.YtmfapopclbnlpaaGreatDoorHs6
import Derived.Test.YtmfapopclbnlpaaGreatDoorHs18
import Derived.Test.YtmfapopclbnlpaaGreatDoorHs21
import Derived.Test.YtmfapopclbnlpaaGreatDoorHs23
import Derived.Test.YtmfapopclbnlpaaGreatDoorHs26
import Derived.Test.YtmfapopclbnlpaaGreatDoorHs27
set_option linter.unusedVariables false
set_option linter.unusedSimpArgs false
set_option maxRecDepth 100000
set_option maxHeartbeats 4000000
namespace Go.Proofs.YtmfapopclbnlpaaGreatDoor
open Go Go.Proofs Go.RowKit Go.Vc
section
def yO:cp:=bP [(75,jZ),(76,oq),(91,lH),(92,ik),(77,hH),(78,cY)]
def yP(sc us pw:Bs)(hk:Int)(hs:Bs)(hn:Int)(hp:List Int)(port:Int)(pn:Bool)(pl:List Bs)(hq:Bool)(q:Bs)(hf:Bool)(fg:Bs)(bare sp:Bool)(rst:Bs)(bsc bus bpw:Bs)(bhk:Int)(bhs:Bs)(bhn:Int)(bhp:List Int)(bport:Int)(bopq bpn:Bool)(bpl:List Bs)(bhq:Bool)(bq:Bs)(bhf:Bool)(bfg:Bs):ba:=fun i=>none
theorem yQ:cR Tryz.prog aA yO:=ai ra (ai vV (ai sw (ai oe (ai j9 (ai cI (ax))))))
theorem Ez(sc us pw:Bs)(hk:Int)(hs:Bs)(hn:Int)(hp:List Int)(port:Int)(pn:Bool)(pl:List Bs)(hq:Bool)(q:Bs)(hf:Bool)(fg:Bs)(bare sp:Bool)(rst:Bs)(bsc bus bpw:Bs)(bhk:Int)(bhs:Bs)(bhn:Int)(bhp:List Int)(bport:Int)(bopq bpn:Bool)(bpl:List Bs)(bhq:Bool)(bq:Bs)(bhf:Bool)(bfg:Bs)(k:PV→List PV→Prop):bQ Tryz.prog yO aA (yP sc us pw hk hs hn hp port pn pl hq q hf fg bare sp rst bsc bus bpw bhk bhs bhn bhp bport bopq bpn bpl bhq bq bhf bfg) 1000 Tryz.f47 [.ptr 0 0] [aE 1 (.ptr 1 0) sc us pw hk hs hn hp port false pn pl hq q hf fg bare sp rst,bE 0 bsc bus bpw bhk bhs bhn bhp bport bopq bpn bpl bhq bq bhf bfg] k=(
 (List.length rst≤(300000:Nat)∧
 (ab rst rst (0:Nat)).2.2=false∧
 bopq=false)∧
 ((!decide ((0:Int)=(0:Int)))=true→
 k (PV.int .i64 (0:Int)) [bT (PV.ptr (1:Nat) (0:Nat)) 1 bsc us pw hk hs hn hp port false pn pl hq q hf fg true (ay bsc) rst,bE (0:Nat) bsc bus bpw bhk bhs bhn bhp bport bopq bpn bpl bhq bq bhf bfg])∧
 ((!decide ((0:Int)=(0:Int)))=false→
 (false=true→
 (List.length rst).le (300000:Nat)∧
 (List.length (bK rst)).le (300000:Nat)∧
 k (PV.int .i64 (0:Int)) [bT (PV.ptr (1:Nat) (0:Nat)) 1 bsc us pw hk hs hn hp port false pn pl (ee rst hq) (eh (ay bsc) rst q) (ei (bK rst) hf) (ej (bK rst) fg) true (ay bsc) (en (bK rst)),bE (0:Nat) bsc bus bpw bhk bhs bhn bhp bport bopq bpn bpl bhq bq bhf bfg])∧
 (false=false→
 (decide (bsc=(ByteArray.mk #[102,105,108,101]).data.toList)=true→
 (List.length rst≤(300000:Nat)∧
 bpl.length≤(100000:Nat)∧
 az (ay bsc) rst (0:Int)=false∧
 bz rst=false∧
 bw rst=false∧
 bsc=bsc)∧
 ((!decide ((0:Int)=(0:Int)))=true→
 k (PV.int .i64 (0:Int)) [bT (PV.ptr (1:Nat) (0:Nat)) 1 bsc us pw (((RS.mk bsc us pw hk hs hn hp port false pn pl hq q hf fg true (ay bsc) rst).b9 (RS.mk bsc bus bpw bhk bhs bhn bhp bport bopq bpn bpl bhq bq bhf bfg false false [])).hk) (((RS.mk bsc us pw hk hs hn hp port false pn pl hq q hf fg true (ay bsc) rst).b9 (RS.mk bsc bus bpw bhk bhs bhn bhp bport bopq bpn bpl bhq bq bhf bfg false false [])).hs) (((RS.mk bsc us pw hk hs hn hp port false pn pl hq q hf fg true (ay bsc) rst).b9 (RS.mk bsc bus bpw bhk bhs bhn bhp bport bopq bpn bpl bhq bq bhf bfg false false [])).hn) (((RS.mk bsc us pw hk hs hn hp port false pn pl hq q hf fg true (ay bsc) rst).b9 (RS.mk bsc bus bpw bhk bhs bhn bhp bport bopq bpn bpl bhq bq bhf bfg false false [])).hp) port false (((RS.mk bsc us pw hk hs hn hp port false pn pl hq q hf fg true (ay bsc) rst).b9 (RS.mk bsc bus bpw bhk bhs bhn bhp bport bopq bpn bpl bhq bq bhf bfg false false [])).pn) (((RS.mk bsc us pw hk hs hn hp port false pn pl hq q hf fg true (ay bsc) rst).b9 (RS.mk bsc bus bpw bhk bhs bhn bhp bport bopq bpn bpl bhq bq bhf bfg false false [])).pl) hq q hf fg true (ay bsc) (((RS.mk bsc us pw hk hs hn hp port false pn pl hq q hf fg true (ay bsc) rst).b9 (RS.mk bsc bus bpw bhk bhs bhn bhp bport bopq bpn bpl bhq bq bhf bfg false false [])).rst),bE (0:Nat) bsc bus bpw bhk bhs bhn bhp bport bopq bpn bpl bhq bq bhf bfg])∧
 ((!decide ((0:Int)=(0:Int)))=false→
 (List.length ((RS.mk bsc us pw hk hs hn hp port false pn pl hq q hf fg true (ay bsc) rst).b9 (RS.mk bsc bus bpw bhk bhs bhn bhp bport bopq bpn bpl bhq bq bhf bfg false false [])).rst).le (300000:Nat)∧
 (List.length (bK ((RS.mk bsc us pw hk hs hn hp port false pn pl hq q hf fg true (ay bsc) rst).b9 (RS.mk bsc bus bpw bhk bhs bhn bhp bport bopq bpn bpl bhq bq bhf bfg false false [])).rst)).le (300000:Nat)∧
 k (PV.int .i64 (0:Int)) [bT (PV.ptr (1:Nat) (0:Nat)) 1 bsc us pw (((RS.mk bsc us pw hk hs hn hp port false pn pl hq q hf fg true (ay bsc) rst).b9 (RS.mk bsc bus bpw bhk bhs bhn bhp bport bopq bpn bpl bhq bq bhf bfg false false [])).hk) (((RS.mk bsc us pw hk hs hn hp port false pn pl hq q hf fg true (ay bsc) rst).b9 (RS.mk bsc bus bpw bhk bhs bhn bhp bport bopq bpn bpl bhq bq bhf bfg false false [])).hs) (((RS.mk bsc us pw hk hs hn hp port false pn pl hq q hf fg true (ay bsc) rst).b9 (RS.mk bsc bus bpw bhk bhs bhn bhp bport bopq bpn bpl bhq bq bhf bfg false false [])).hn) (((RS.mk bsc us pw hk hs hn hp port false pn pl hq q hf fg true (ay bsc) rst).b9 (RS.mk bsc bus bpw bhk bhs bhn bhp bport bopq bpn bpl bhq bq bhf bfg false false [])).hp) port false (((RS.mk bsc us pw hk hs hn hp port false pn pl hq q hf fg true (ay bsc) rst).b9 (RS.mk bsc bus bpw bhk bhs bhn bhp bport bopq bpn bpl bhq bq bhf bfg false false [])).pn) (((RS.mk bsc us pw hk hs hn hp port false pn pl hq q hf fg true (ay bsc) rst).b9 (RS.mk bsc bus bpw bhk bhs bhn bhp bport bopq bpn bpl bhq bq bhf bfg false false [])).pl) (ee ((RS.mk bsc us pw hk hs hn hp port false pn pl hq q hf fg true (ay bsc) rst).b9 (RS.mk bsc bus bpw bhk bhs bhn bhp bport bopq bpn bpl bhq bq bhf bfg false false [])).rst hq) (eh (ay bsc) ((RS.mk bsc us pw hk hs hn hp port false pn pl hq q hf fg true (ay bsc) rst).b9 (RS.mk bsc bus bpw bhk bhs bhn bhp bport bopq bpn bpl bhq bq bhf bfg false false [])).rst q) (ei (bK ((RS.mk bsc us pw hk hs hn hp port false pn pl hq q hf fg true (ay bsc) rst).b9 (RS.mk bsc bus bpw bhk bhs bhn bhp bport bopq bpn bpl bhq bq bhf bfg false false [])).rst) hf) (ej (bK ((RS.mk bsc us pw hk hs hn hp port false pn pl hq q hf fg true (ay bsc) rst).b9 (RS.mk bsc bus bpw bhk bhs bhn bhp bport bopq bpn bpl bhq bq bhf bfg false false [])).rst) fg) true (ay bsc) (en (bK ((RS.mk bsc us pw hk hs hn hp port false pn pl hq q hf fg true (ay bsc) rst).b9 (RS.mk bsc bus bpw bhk bhs bhn bhp bport bopq bpn bpl bhq bq bhf bfg false false [])).rst)),bE (0:Nat) bsc bus bpw bhk bhs bhn bhp bport bopq bpn bpl bhq bq bhf bfg]))∧
 (decide (bsc=(ByteArray.mk #[102,105,108,101]).data.toList)=false→
 (true=false→
 (ay bsc=true→
 bsc=bsc∧
 (false=false→
 true=true→
 True)∧
 ((!preB rst (ByteArray.mk #[47,47]).data.toList)=true→
 False)∧
 ((!preB rst (ByteArray.mk #[47,47]).data.toList)=false→
 (ay bsc=true→
 False)∧
 (ay bsc=false→
 False)))∧
 (ay bsc=!true→
 (false=false→
 false=true→
 True)∧
 (false=true→
 False)∧
 (false=false→
 (ay bsc=true→
 False)∧
 (ay bsc=false→
 False))))∧
 (true=!false→
 ((!false)=false→
 false=true→
 True)∧
 (true=true→
 False)∧
 (true=false→
 (ay bsc=true→
 False)∧
 (ay bsc=false→
 False))))))):=by kernel_rfl
attribute [local irreducible] Go.Vc.cB Go.Vc.bQ
theorem yR(sc us pw:Bs)(hk:Int)(hs:Bs)(hn:Int)(hp:List Int)(port:Int)(pn:Bool)(pl:List Bs)(hq:Bool)(q:Bs)(hf:Bool)(fg:Bs)(bare sp:Bool)(rst:Bs)(bsc bus bpw:Bs)(bhk:Int)(bhs:Bs)(bhn:Int)(bhp:List Int)(bport:Int)(bopq bpn:Bool)(bpl:List Bs)(bhq:Bool)(bq:Bs)(bhf:Bool)(bfg:Bs):bt Tryz.prog aA 47 [.ptr 0 0] [aE 1 (.ptr 1 0) sc us pw hk hs hn hp port false pn pl hq q hf fg bare sp rst,bE 0 bsc bus bpw bhk bhs bhn bhp bport bopq bpn bpl bhq bq bhf bfg] (rst.length≤300000∧bpl.length≤100000∧(ab rst rst 0).2.2=false∧bopq=false∧bsc=fL∧az (ay bsc) rst 0=false∧bz rst=false∧bw rst=false) (.int .i64 0) [aE 0 (.ptr 1 0) (((RS.mk sc us pw hk hs hn hp port false pn pl hq q hf fg bare sp rst).aw (RS.mk bsc bus bpw bhk bhs bhn bhp bport bopq bpn bpl bhq bq bhf bfg false false [])).sc) (((RS.mk sc us pw hk hs hn hp port false pn pl hq q hf fg bare sp rst).aw (RS.mk bsc bus bpw bhk bhs bhn bhp bport bopq bpn bpl bhq bq bhf bfg false false [])).us) (((RS.mk sc us pw hk hs hn hp port false pn pl hq q hf fg bare sp rst).aw (RS.mk bsc bus bpw bhk bhs bhn bhp bport bopq bpn bpl bhq bq bhf bfg false false [])).pw) (((RS.mk sc us pw hk hs hn hp port false pn pl hq q hf fg bare sp rst).aw (RS.mk bsc bus bpw bhk bhs bhn bhp bport bopq bpn bpl bhq bq bhf bfg false false [])).hk) (((RS.mk sc us pw hk hs hn hp port false pn pl hq q hf fg bare sp rst).aw (RS.mk bsc bus bpw bhk bhs bhn bhp bport bopq bpn bpl bhq bq bhf bfg false false [])).hs) (((RS.mk sc us pw hk hs hn hp port false pn pl hq q hf fg bare sp rst).aw (RS.mk bsc bus bpw bhk bhs bhn bhp bport bopq bpn bpl bhq bq bhf bfg false false [])).hn) (((RS.mk sc us pw hk hs hn hp port false pn pl hq q hf fg bare sp rst).aw (RS.mk bsc bus bpw bhk bhs bhn bhp bport bopq bpn bpl bhq bq bhf bfg false false [])).hp) (((RS.mk sc us pw hk hs hn hp port false pn pl hq q hf fg bare sp rst).aw (RS.mk bsc bus bpw bhk bhs bhn bhp bport bopq bpn bpl bhq bq bhf bfg false false [])).port) (((RS.mk sc us pw hk hs hn hp port false pn pl hq q hf fg bare sp rst).aw (RS.mk bsc bus bpw bhk bhs bhn bhp bport bopq bpn bpl bhq bq bhf bfg false false [])).opq) (((RS.mk sc us pw hk hs hn hp port false pn pl hq q hf fg bare sp rst).aw (RS.mk bsc bus bpw bhk bhs bhn bhp bport bopq bpn bpl bhq bq bhf bfg false false [])).pn) (((RS.mk sc us pw hk hs hn hp port false pn pl hq q hf fg bare sp rst).aw (RS.mk bsc bus bpw bhk bhs bhn bhp bport bopq bpn bpl bhq bq bhf bfg false false [])).pl) (((RS.mk sc us pw hk hs hn hp port false pn pl hq q hf fg bare sp rst).aw (RS.mk bsc bus bpw bhk bhs bhn bhp bport bopq bpn bpl bhq bq bhf bfg false false [])).hq) (((RS.mk sc us pw hk hs hn hp port false pn pl hq q hf fg bare sp rst).aw (RS.mk bsc bus bpw bhk bhs bhn bhp bport bopq bpn bpl bhq bq bhf bfg false false [])).q) (((RS.mk sc us pw hk hs hn hp port false pn pl hq q hf fg bare sp rst).aw (RS.mk bsc bus bpw bhk bhs bhn bhp bport bopq bpn bpl bhq bq bhf bfg false false [])).hf) (((RS.mk sc us pw hk hs hn hp port false pn pl hq q hf fg bare sp rst).aw (RS.mk bsc bus bpw bhk bhs bhn bhp bport bopq bpn bpl bhq bq bhf bfg false false [])).fg) (((RS.mk sc us pw hk hs hn hp port false pn pl hq q hf fg bare sp rst).aw (RS.mk bsc bus bpw bhk bhs bhn bhp bport bopq bpn bpl bhq bq bhf bfg false false [])).bare) (((RS.mk sc us pw hk hs hn hp port false pn pl hq q hf fg bare sp rst).aw (RS.mk bsc bus bpw bhk bhs bhn bhp bport bopq bpn bpl bhq bq bhf bfg false false [])).sp) (((RS.mk sc us pw hk hs hn hp port false pn pl hq q hf fg bare sp rst).aw (RS.mk bsc bus bpw bhk bhs bhn bhp bport bopq bpn bpl bhq bq bhf bfg false false [])).rst),bE 0 bsc bus bpw bhk bhs bhn bhp bport bopq bpn bpl bhq bq bhf bfg]:=uO (by kernel_rfl) yQ (H:=yP sc us pw hk hs hn hp port pn pl hq q hf fg bare sp rst bsc bus bpw bhk bhs bhn bhp bport bopq bpn bpl bhq bq bhf bfg) (fuel:=1000) Tryz.func47 (by kernel_rfl) (Nat.le_of_ble_eq_true rfl) fun hpre=>(Ez sc us pw hk hs hn hp port pn pl hq q hf fg bare sp rst bsc bus bpw bhk bhs bhn bhp bport bopq bpn bpl bhq bq bhf bfg _).mpr (by
 obtain ⟨h1,h2,h3,h4,h5,h6,h7,h8⟩:=hpre
 have hb:decide (bsc=(ByteArray.mk #[102,105,108,101]).data.toList)=true:=decide_eq_true h5
 have hr:((RS.mk bsc us pw hk hs hn hp port false pn pl hq q hf fg true (ay bsc) rst).b9 (RS.mk bsc bus bpw bhk bhs bhn bhp bport bopq bpn bpl bhq bq bhf bfg false false [])).rst.length≤300000:=by
  show(aa rst _).length≤_
  unfold aa
  rw [List.length_drop];omega
 have e:(RS.mk sc us pw hk hs hn hp port false pn pl hq q hf fg bare sp rst).aw (RS.mk bsc bus bpw bhk bhs bhn bhp bport bopq bpn bpl bhq bq bhf bfg false false [])=_:=jt _
 rw [e]
 exact ⟨⟨h1,h3,h4⟩,(fun h=>absurd h (by decide)),fun _=>⟨(fun h=>nomatch h),fun _=>⟨fun _=>⟨⟨h1,h2,h6,h7,h8,rfl⟩,(fun h=>absurd h (by decide)),fun _=>⟨hr,Nat.le_trans (iT _) hr,rfl,rfl⟩⟩,fun h=>absurd (h.symm.trans hb) nofun⟩⟩⟩)
end
section
attribute [local instance] Lc
theorem wi(sc us pw:Bs)(hk:Int)(hs:Bs)(hn:Int)(hp:List Int)(port:Int)(hq:Bool)(q:Bs)(hf:Bool)(fg:Bs)(bare sp:Bool)(rst:Bs)(bsc bus bpw:Bs)(bhk:Int)(bhs:Bs)(bhn:Int)(bhp:List Int)(bport:Int)(bopq bpn:Bool)(bpl:List Bs)(bhq:Bool)(bq:Bs)(bhf:Bool)(bfg:Bs):bt Tryz.prog aA 47 [.ptr 0 0] [aE 0 (.ptr 1 0) sc us pw hk hs hn hp port false true [] hq q hf fg bare sp rst,bE 0 bsc bus bpw bhk bhs bhn bhp bport bopq bpn bpl bhq bq bhf bfg] (rst.length≤300000∧bpl.length≤100000∧(ab rst rst 0).2.2=false∧bopq=false∧bsc=fL∧az (ay bsc) rst 0=false∧bz rst=false∧bw rst=false) (.int .i64 0) [aE 0 (.ptr 1 0) (((RS.mk sc us pw hk hs hn hp port false true ([]:List Bs) hq q hf fg bare sp rst).aw (RS.mk bsc bus bpw bhk bhs bhn bhp bport bopq bpn bpl bhq bq bhf bfg false false [])).sc) (((RS.mk sc us pw hk hs hn hp port false true ([]:List Bs) hq q hf fg bare sp rst).aw (RS.mk bsc bus bpw bhk bhs bhn bhp bport bopq bpn bpl bhq bq bhf bfg false false [])).us) (((RS.mk sc us pw hk hs hn hp port false true ([]:List Bs) hq q hf fg bare sp rst).aw (RS.mk bsc bus bpw bhk bhs bhn bhp bport bopq bpn bpl bhq bq bhf bfg false false [])).pw) (((RS.mk sc us pw hk hs hn hp port false true ([]:List Bs) hq q hf fg bare sp rst).aw (RS.mk bsc bus bpw bhk bhs bhn bhp bport bopq bpn bpl bhq bq bhf bfg false false [])).hk) (((RS.mk sc us pw hk hs hn hp port false true ([]:List Bs) hq q hf fg bare sp rst).aw (RS.mk bsc bus bpw bhk bhs bhn bhp bport bopq bpn bpl bhq bq bhf bfg false false [])).hs) (((RS.mk sc us pw hk hs hn hp port false true ([]:List Bs) hq q hf fg bare sp rst).aw (RS.mk bsc bus bpw bhk bhs bhn bhp bport bopq bpn bpl bhq bq bhf bfg false false [])).hn) (((RS.mk sc us pw hk hs hn hp port false true ([]:List Bs) hq q hf fg bare sp rst).aw (RS.mk bsc bus bpw bhk bhs bhn bhp bport bopq bpn bpl bhq bq bhf bfg false false [])).hp) (((RS.mk sc us pw hk hs hn hp port false true ([]:List Bs) hq q hf fg bare sp rst).aw (RS.mk bsc bus bpw bhk bhs bhn bhp bport bopq bpn bpl bhq bq bhf bfg false false [])).port) (((RS.mk sc us pw hk hs hn hp port false true ([]:List Bs) hq q hf fg bare sp rst).aw (RS.mk bsc bus bpw bhk bhs bhn bhp bport bopq bpn bpl bhq bq bhf bfg false false [])).opq) (((RS.mk sc us pw hk hs hn hp port false true ([]:List Bs) hq q hf fg bare sp rst).aw (RS.mk bsc bus bpw bhk bhs bhn bhp bport bopq bpn bpl bhq bq bhf bfg false false [])).pn) (((RS.mk sc us pw hk hs hn hp port false true ([]:List Bs) hq q hf fg bare sp rst).aw (RS.mk bsc bus bpw bhk bhs bhn bhp bport bopq bpn bpl bhq bq bhf bfg false false [])).pl) (((RS.mk sc us pw hk hs hn hp port false true ([]:List Bs) hq q hf fg bare sp rst).aw (RS.mk bsc bus bpw bhk bhs bhn bhp bport bopq bpn bpl bhq bq bhf bfg false false [])).hq) (((RS.mk sc us pw hk hs hn hp port false true ([]:List Bs) hq q hf fg bare sp rst).aw (RS.mk bsc bus bpw bhk bhs bhn bhp bport bopq bpn bpl bhq bq bhf bfg false false [])).q) (((RS.mk sc us pw hk hs hn hp port false true ([]:List Bs) hq q hf fg bare sp rst).aw (RS.mk bsc bus bpw bhk bhs bhn bhp bport bopq bpn bpl bhq bq bhf bfg false false [])).hf) (((RS.mk sc us pw hk hs hn hp port false true ([]:List Bs) hq q hf fg bare sp rst).aw (RS.mk bsc bus bpw bhk bhs bhn bhp bport bopq bpn bpl bhq bq bhf bfg false false [])).fg) (((RS.mk sc us pw hk hs hn hp port false true ([]:List Bs) hq q hf fg bare sp rst).aw (RS.mk bsc bus bpw bhk bhs bhn bhp bport bopq bpn bpl bhq bq bhf bfg false false [])).bare) (((RS.mk sc us pw hk hs hn hp port false true ([]:List Bs) hq q hf fg bare sp rst).aw (RS.mk bsc bus bpw bhk bhs bhn bhp bport bopq bpn bpl bhq bq bhf bfg false false [])).sp) (((RS.mk sc us pw hk hs hn hp port false true ([]:List Bs) hq q hf fg bare sp rst).aw (RS.mk bsc bus bpw bhk bhs bhn bhp bport bopq bpn bpl bhq bq bhf bfg false false [])).rst),bE 0 bsc bus bpw bhk bhs bhn bhp bport bopq bpn bpl bhq bq bhf bfg]:=fun hpre F w vs bs τ hF hT hw hb hτ hl hx=>
 yR sc us pw hk hs hn hp port true [] hq q hf fg bare sp rst bsc bus bpw bhk bhs bhn bhp bport bopq bpn bpl bhq bq bhf bfg hpre F w vs bs τ hF hT hw hb hτ ⟨hl.len,hl.nd,hl.bF,hl.mks,hl.inj,fun i x hx=>by
  match i,hx with
  |0,hx=>
   injection hx with hx
   subst hx
   obtain ⟨b,h1,u,e,fz,g1,g2,g3,g4,g5⟩:=hl.box 0 _ rfl
   exact ⟨b,h1,u,e,fz,g1,g2,aR.map (f:=Em) (fun y v _ hy=>yA hy) (fun y _=>yB y) g3,g4,g5⟩
  |1,hx=>exact hl.box 1 x hx
  |i+2,hx=>cases hx⟩ hx
theorem Bc(sc us pw:Bs)(hk:Int)(hs:Bs)(hn:Int)(hp:List Int)(port:Int)(hq:Bool)(q:Bs)(hf:Bool)(fg:Bs)(bare sp:Bool)(rst:Bs)(bsc bus bpw:Bs)(bhk:Int)(bhs:Bs)(bhn:Int)(bhp:List Int)(bport:Int)(bopq bpn:Bool)(bpl:List Bs)(bhq:Bool)(bq:Bs)(bhf:Bool)(bfg:Bs):ag Tryz.prog aA 47 [.ptr 0 0,aE 0 (.ptr 1 0) sc us pw hk hs hn hp port false true [] hq q hf fg bare sp rst,bE 0 bsc bus bpw bhk bhs bhn bhp bport bopq bpn bpl bhq bq bhf bfg] ⟨rst.length≤300000∧bpl.length≤100000∧(ab rst rst 0).2.2=false∧bopq=false∧bsc=fL∧az (ay bsc) rst 0=false∧bz rst=false∧bw rst=false,.tup [.int .i64 0,aE 0 (.ptr 1 0) (((RS.mk sc us pw hk hs hn hp port false true ([]:List Bs) hq q hf fg bare sp rst).aw (RS.mk bsc bus bpw bhk bhs bhn bhp bport bopq bpn bpl bhq bq bhf bfg false false [])).sc) (((RS.mk sc us pw hk hs hn hp port false true ([]:List Bs) hq q hf fg bare sp rst).aw (RS.mk bsc bus bpw bhk bhs bhn bhp bport bopq bpn bpl bhq bq bhf bfg false false [])).us) (((RS.mk sc us pw hk hs hn hp port false true ([]:List Bs) hq q hf fg bare sp rst).aw (RS.mk bsc bus bpw bhk bhs bhn bhp bport bopq bpn bpl bhq bq bhf bfg false false [])).pw) (((RS.mk sc us pw hk hs hn hp port false true ([]:List Bs) hq q hf fg bare sp rst).aw (RS.mk bsc bus bpw bhk bhs bhn bhp bport bopq bpn bpl bhq bq bhf bfg false false [])).hk) (((RS.mk sc us pw hk hs hn hp port false true ([]:List Bs) hq q hf fg bare sp rst).aw (RS.mk bsc bus bpw bhk bhs bhn bhp bport bopq bpn bpl bhq bq bhf bfg false false [])).hs) (((RS.mk sc us pw hk hs hn hp port false true ([]:List Bs) hq q hf fg bare sp rst).aw (RS.mk bsc bus bpw bhk bhs bhn bhp bport bopq bpn bpl bhq bq bhf bfg false false [])).hn) (((RS.mk sc us pw hk hs hn hp port false true ([]:List Bs) hq q hf fg bare sp rst).aw (RS.mk bsc bus bpw bhk bhs bhn bhp bport bopq bpn bpl bhq bq bhf bfg false false [])).hp) (((RS.mk sc us pw hk hs hn hp port false true ([]:List Bs) hq q hf fg bare sp rst).aw (RS.mk bsc bus bpw bhk bhs bhn bhp bport bopq bpn bpl bhq bq bhf bfg false false [])).port) (((RS.mk sc us pw hk hs hn hp port false true ([]:List Bs) hq q hf fg bare sp rst).aw (RS.mk bsc bus bpw bhk bhs bhn bhp bport bopq bpn bpl bhq bq bhf bfg false false [])).opq) (((RS.mk sc us pw hk hs hn hp port false true ([]:List Bs) hq q hf fg bare sp rst).aw (RS.mk bsc bus bpw bhk bhs bhn bhp bport bopq bpn bpl bhq bq bhf bfg false false [])).pn) (((RS.mk sc us pw hk hs hn hp port false true ([]:List Bs) hq q hf fg bare sp rst).aw (RS.mk bsc bus bpw bhk bhs bhn bhp bport bopq bpn bpl bhq bq bhf bfg false false [])).pl) (((RS.mk sc us pw hk hs hn hp port false true ([]:List Bs) hq q hf fg bare sp rst).aw (RS.mk bsc bus bpw bhk bhs bhn bhp bport bopq bpn bpl bhq bq bhf bfg false false [])).hq) (((RS.mk sc us pw hk hs hn hp port false true ([]:List Bs) hq q hf fg bare sp rst).aw (RS.mk bsc bus bpw bhk bhs bhn bhp bport bopq bpn bpl bhq bq bhf bfg false false [])).q) (((RS.mk sc us pw hk hs hn hp port false true ([]:List Bs) hq q hf fg bare sp rst).aw (RS.mk bsc bus bpw bhk bhs bhn bhp bport bopq bpn bpl bhq bq bhf bfg false false [])).hf) (((RS.mk sc us pw hk hs hn hp port false true ([]:List Bs) hq q hf fg bare sp rst).aw (RS.mk bsc bus bpw bhk bhs bhn bhp bport bopq bpn bpl bhq bq bhf bfg false false [])).fg) (((RS.mk sc us pw hk hs hn hp port false true ([]:List Bs) hq q hf fg bare sp rst).aw (RS.mk bsc bus bpw bhk bhs bhn bhp bport bopq bpn bpl bhq bq bhf bfg false false [])).bare) (((RS.mk sc us pw hk hs hn hp port false true ([]:List Bs) hq q hf fg bare sp rst).aw (RS.mk bsc bus bpw bhk bhs bhn bhp bport bopq bpn bpl bhq bq bhf bfg false false [])).sp) (((RS.mk sc us pw hk hs hn hp port false true ([]:List Bs) hq q hf fg bare sp rst).aw (RS.mk bsc bus bpw bhk bhs bhn bhp bport bopq bpn bpl bhq bq bhf bfg false false [])).rst),bE 0 bsc bus bpw bhk bhs bhn bhp bport bopq bpn bpl bhq bq bhf bfg]⟩:=ag.bg (fun h=>by have e:List.isEmpty (PV.aB PV.bD [.ptr 0 0,aE 0 (.ptr 1 0) sc us pw hk hs hn hp port false true [] hq q hf fg bare sp rst,bE 0 bsc bus bpw bhk bhs bhn bhp bport bopq bpn bpl bhq bq bhf bfg])=false:=(by kernel_rfl);exact Bool.noConfusion (e.symm.trans (congrArg List.isEmpty h))) (wi sc us pw hk hs hn hp port hq q hf fg bare sp rst bsc bus bpw bhk bhs bhn bhp bport bopq bpn bpl bhq bq bhf bfg)
def ke:List PV→Option aG:=fun xs=>match xs with
 |[.ptr 0 0,aE 0 (.ptr 1 0) sc us pw hk hs hn hp port false true [] hq q hf fg bare sp rst,bE 0 bsc bus bpw bhk bhs bhn bhp bport bopq bpn bpl bhq bq bhf bfg]=>some ⟨rst.length≤300000∧bpl.length≤100000∧(ab rst rst 0).2.2=false∧bopq=false∧bsc=fL∧az (ay bsc) rst 0=false∧bz rst=false∧bw rst=false,.tup [.int .i64 0,aE 0 (.ptr 1 0) (((RS.mk sc us pw hk hs hn hp port false true ([]:List Bs) hq q hf fg bare sp rst).aw (RS.mk bsc bus bpw bhk bhs bhn bhp bport bopq bpn bpl bhq bq bhf bfg false false [])).sc) (((RS.mk sc us pw hk hs hn hp port false true ([]:List Bs) hq q hf fg bare sp rst).aw (RS.mk bsc bus bpw bhk bhs bhn bhp bport bopq bpn bpl bhq bq bhf bfg false false [])).us) (((RS.mk sc us pw hk hs hn hp port false true ([]:List Bs) hq q hf fg bare sp rst).aw (RS.mk bsc bus bpw bhk bhs bhn bhp bport bopq bpn bpl bhq bq bhf bfg false false [])).pw) (((RS.mk sc us pw hk hs hn hp port false true ([]:List Bs) hq q hf fg bare sp rst).aw (RS.mk bsc bus bpw bhk bhs bhn bhp bport bopq bpn bpl bhq bq bhf bfg false false [])).hk) (((RS.mk sc us pw hk hs hn hp port false true ([]:List Bs) hq q hf fg bare sp rst).aw (RS.mk bsc bus bpw bhk bhs bhn bhp bport bopq bpn bpl bhq bq bhf bfg false false [])).hs) (((RS.mk sc us pw hk hs hn hp port false true ([]:List Bs) hq q hf fg bare sp rst).aw (RS.mk bsc bus bpw bhk bhs bhn bhp bport bopq bpn bpl bhq bq bhf bfg false false [])).hn) (((RS.mk sc us pw hk hs hn hp port false true ([]:List Bs) hq q hf fg bare sp rst).aw (RS.mk bsc bus bpw bhk bhs bhn bhp bport bopq bpn bpl bhq bq bhf bfg false false [])).hp) (((RS.mk sc us pw hk hs hn hp port false true ([]:List Bs) hq q hf fg bare sp rst).aw (RS.mk bsc bus bpw bhk bhs bhn bhp bport bopq bpn bpl bhq bq bhf bfg false false [])).port) (((RS.mk sc us pw hk hs hn hp port false true ([]:List Bs) hq q hf fg bare sp rst).aw (RS.mk bsc bus bpw bhk bhs bhn bhp bport bopq bpn bpl bhq bq bhf bfg false false [])).opq) (((RS.mk sc us pw hk hs hn hp port false true ([]:List Bs) hq q hf fg bare sp rst).aw (RS.mk bsc bus bpw bhk bhs bhn bhp bport bopq bpn bpl bhq bq bhf bfg false false [])).pn) (((RS.mk sc us pw hk hs hn hp port false true ([]:List Bs) hq q hf fg bare sp rst).aw (RS.mk bsc bus bpw bhk bhs bhn bhp bport bopq bpn bpl bhq bq bhf bfg false false [])).pl) (((RS.mk sc us pw hk hs hn hp port false true ([]:List Bs) hq q hf fg bare sp rst).aw (RS.mk bsc bus bpw bhk bhs bhn bhp bport bopq bpn bpl bhq bq bhf bfg false false [])).hq) (((RS.mk sc us pw hk hs hn hp port false true ([]:List Bs) hq q hf fg bare sp rst).aw (RS.mk bsc bus bpw bhk bhs bhn bhp bport bopq bpn bpl bhq bq bhf bfg false false [])).q) (((RS.mk sc us pw hk hs hn hp port false true ([]:List Bs) hq q hf fg bare sp rst).aw (RS.mk bsc bus bpw bhk bhs bhn bhp bport bopq bpn bpl bhq bq bhf bfg false false [])).hf) (((RS.mk sc us pw hk hs hn hp port false true ([]:List Bs) hq q hf fg bare sp rst).aw (RS.mk bsc bus bpw bhk bhs bhn bhp bport bopq bpn bpl bhq bq bhf bfg false false [])).fg) (((RS.mk sc us pw hk hs hn hp port false true ([]:List Bs) hq q hf fg bare sp rst).aw (RS.mk bsc bus bpw bhk bhs bhn bhp bport bopq bpn bpl bhq bq bhf bfg false false [])).bare) (((RS.mk sc us pw hk hs hn hp port false true ([]:List Bs) hq q hf fg bare sp rst).aw (RS.mk bsc bus bpw bhk bhs bhn bhp bport bopq bpn bpl bhq bq bhf bfg false false [])).sp) (((RS.mk sc us pw hk hs hn hp port false true ([]:List Bs) hq q hf fg bare sp rst).aw (RS.mk bsc bus bpw bhk bhs bhn bhp bport bopq bpn bpl bhq bq bhf bfg false false [])).rst),bE 0 bsc bus bpw bhk bhs bhn bhp bport bopq bpn bpl bhq bq bhf bfg]⟩
 |_=>none
theorem rT:∀xs c,ke xs=some c→ag Tryz.prog aA 47 xs c:=fun xs c h=>by
 unfold ke at h
 split at h
 ·injection h with h;subst h;exact Bc _ _ _ _ _ _ _ _ _ _ _ _ _ _ _ _ _ _ _ _ _ _ _ _ _ _ _ _ _ _
 ·cases h
end
section
def yS:cp:=bP [(46,kv),(47,ke)]
def yT(l:Bs)(bsc bus bpw:Bs)(bhk:Int)(bhs:Bs)(bhn:Int)(bhp:List Int)(bport:Int)(bopq bpn:Bool)(bpl:List Bs)(bhq:Bool)(bq:Bs)(bhf:Bool)(bfg:Bs):ba:=fun i=>none
theorem yU:cR Tryz.prog aA yS:=ai mI (ai rT (ax))
theorem EA(l:Bs)(bsc bus bpw:Bs)(bhk:Int)(bhs:Bs)(bhn:Int)(bhp:List Int)(bport:Int)(bopq bpn:Bool)(bpl:List Bs)(bhq:Bool)(bq:Bs)(bhf:Bool)(bfg:Bs)(k:PV→List PV→Prop):bQ Tryz.prog yS aA (yT l bsc bus bpw bhk bhs bhn bhp bport bopq bpn bpl bhq bq bhf bfg) 1000 Tryz.f30 [.str l,.ptr 0 0] [bE 0 bsc bus bpw bhk bhs bhn bhp bport bopq bpn bpl bhq bq bhf bfg] k=(
 (decide ((1048576:Int)<ak l)=true→
 k
 (PV.tup
 [bE (0:Nat) [] [] [] (0:Int) [] (0:Int) (List.replicate (8:Nat) (0:Int)) (0:Int) false true [] false [] false [],
 PV.int .i64 (6:Int)])
 [bE (0:Nat) bsc bus bpw bhk bhs bhn bhp bport bopq bpn bpl bhq bq bhf bfg])∧
 (decide ((1048576:Int)<ak l)=false→
 (List.length l).le (60000:Nat)∧
 (List.length (an l)≤(300000:Nat)∧
 bpl.length≤(100000:Nat)∧
 (ab (an l) (an l)
 (0:Nat)).2.2=
 false∧
 bopq=false∧
 bsc=fL∧
 az (ay bsc) (an l)
 (0:Int)=
 false∧
 bz (an l)=false∧
 bw (an l)=false)∧
 ((!decide ((0:Int)=(0:Int)))=true→
 k
 (PV.tup
 [bE (0:Nat) [] [] [] (0:Int) [] (0:Int) (List.replicate (8:Nat) (0:Int)) (0:Int) false true [] false [] false [],
 PV.int .i64 (0:Int)])
 [bE (0:Nat) bsc bus bpw bhk bhs bhn bhp bport bopq bpn bpl bhq bq bhf bfg])∧
 ((!decide ((0:Int)=(0:Int)))=false→
 k
 (PV.tup
 [bE (0:Nat) ((RS.mk [] [] [] (0:Int) [] (0:Int) (List.replicate (8:Nat) (0:Int)) (-1:Int) false true
 [] false [] false [] false false (an l)).aw
 (RS.mk bsc bus bpw bhk bhs bhn bhp bport bopq bpn bpl bhq bq bhf bfg false false [])).sc ((RS.mk [] [] [] (0:Int) [] (0:Int) (List.replicate (8:Nat) (0:Int)) (-1:Int) false true
 [] false [] false [] false false (an l)).aw
 (RS.mk bsc bus bpw bhk bhs bhn bhp bport bopq bpn bpl bhq bq bhf bfg false false [])).us ((RS.mk [] [] [] (0:Int) [] (0:Int) (List.replicate (8:Nat) (0:Int)) (-1:Int) false true
 [] false [] false [] false false (an l)).aw
 (RS.mk bsc bus bpw bhk bhs bhn bhp bport bopq bpn bpl bhq bq bhf bfg false false [])).pw ((RS.mk [] [] [] (0:Int) [] (0:Int) (List.replicate (8:Nat) (0:Int)) (-1:Int) false
 true [] false [] false [] false false (an l)).aw
 (RS.mk bsc bus bpw bhk bhs bhn bhp bport bopq bpn bpl bhq bq bhf bfg false false [])).hk ((RS.mk [] [] [] (0:Int) [] (0:Int) (List.replicate (8:Nat) (0:Int)) (-1:Int) false
 true [] false [] false [] false false (an l)).aw
 (RS.mk bsc bus bpw bhk bhs bhn bhp bport bopq bpn bpl bhq bq bhf bfg false false [])).hs ((RS.mk [] [] [] (0:Int) [] (0:Int) (List.replicate (8:Nat) (0:Int)) (-1:Int) false
 true [] false [] false [] false false (an l)).aw
 (RS.mk bsc bus bpw bhk bhs bhn bhp bport bopq bpn bpl bhq bq bhf bfg false false [])).hn ((RS.mk [] [] [] (0:Int) [] (0:Int) (List.replicate (8:Nat) (0:Int)) (-1:Int) false
 true [] false [] false [] false false (an l)).aw
 (RS.mk bsc bus bpw bhk bhs bhn bhp bport bopq bpn bpl bhq bq bhf bfg false false
 [])).hp ((RS.mk [] [] [] (0:Int) [] (0:Int) (List.replicate (8:Nat) (0:Int)) (-1:Int) false true
 [] false [] false [] false false (an l)).aw
 (RS.mk bsc bus bpw bhk bhs bhn bhp bport bopq bpn bpl bhq bq bhf bfg false false [])).port ((RS.mk [] [] [] (0:Int) [] (0:Int) (List.replicate (8:Nat) (0:Int)) (-1:Int) false true
 [] false [] false [] false false (an l)).aw
 (RS.mk bsc bus bpw bhk bhs bhn bhp bport bopq bpn bpl bhq bq bhf bfg false false [])).opq ((RS.mk [] [] [] (0:Int) [] (0:Int) (List.replicate (8:Nat) (0:Int)) (-1:Int) false true
 [] false [] false [] false false (an l)).aw
 (RS.mk bsc bus bpw bhk bhs bhn bhp bport bopq bpn bpl bhq bq bhf bfg false false [])).pn ((RS.mk [] [] [] (0:Int) [] (0:Int) (List.replicate (8:Nat) (0:Int)) (-1:Int) false true
 [] false [] false [] false false (an l)).aw
 (RS.mk bsc bus bpw bhk bhs bhn bhp bport bopq bpn bpl bhq bq bhf bfg false false [])).pl ((RS.mk [] [] [] (0:Int) [] (0:Int) (List.replicate (8:Nat) (0:Int)) (-1:Int) false true
 [] false [] false [] false false (an l)).aw
 (RS.mk bsc bus bpw bhk bhs bhn bhp bport bopq bpn bpl bhq bq bhf bfg false false [])).hq ((RS.mk [] [] [] (0:Int) [] (0:Int) (List.replicate (8:Nat) (0:Int)) (-1:Int) false true
 [] false [] false [] false false (an l)).aw
 (RS.mk bsc bus bpw bhk bhs bhn bhp bport bopq bpn bpl bhq bq bhf bfg false false [])).q ((RS.mk [] [] [] (0:Int) [] (0:Int) (List.replicate (8:Nat) (0:Int)) (-1:Int) false true
 [] false [] false [] false false (an l)).aw
 (RS.mk bsc bus bpw bhk bhs bhn bhp bport bopq bpn bpl bhq bq bhf bfg false false [])).hf ((RS.mk [] [] [] (0:Int) [] (0:Int) (List.replicate (8:Nat) (0:Int)) (-1:Int) false true
 [] false [] false [] false false (an l)).aw
 (RS.mk bsc bus bpw bhk bhs bhn bhp bport bopq bpn bpl bhq bq bhf bfg false false [])).fg,
 PV.int .i64 (0:Int)])
 [bE (0:Nat) bsc bus bpw bhk bhs bhn bhp bport bopq bpn bpl bhq bq bhf bfg]))):=by kernel_rfl
attribute [local irreducible] Go.Vc.cB Go.Vc.bQ
theorem yV(l:Bs)(bsc bus bpw:Bs)(bhk:Int)(bhs:Bs)(bhn:Int)(bhp:List Int)(bport:Int)(bopq bpn:Bool)(bpl:List Bs)(bhq:Bool)(bq:Bs)(bhf:Bool)(bfg:Bs):bt Tryz.prog aA 30 [.str l,.ptr 0 0] [bE 0 bsc bus bpw bhk bhs bhn bhp bport bopq bpn bpl bhq bq bhf bfg] (l.length≤60000∧bpl.length≤100000∧(ab (an l) (an l) 0).2.2=false∧bopq=false∧bsc=fL∧az (ay bsc) (an l) 0=false∧bz (an l)=false∧bw (an l)=false) (.tup [bE 0 (((RS.init (an l)).aw (RS.mk bsc bus bpw bhk bhs bhn bhp bport bopq bpn bpl bhq bq bhf bfg false false []))).sc (((RS.init (an l)).aw (RS.mk bsc bus bpw bhk bhs bhn bhp bport bopq bpn bpl bhq bq bhf bfg false false []))).us (((RS.init (an l)).aw (RS.mk bsc bus bpw bhk bhs bhn bhp bport bopq bpn bpl bhq bq bhf bfg false false []))).pw (((RS.init (an l)).aw (RS.mk bsc bus bpw bhk bhs bhn bhp bport bopq bpn bpl bhq bq bhf bfg false false []))).hk (((RS.init (an l)).aw (RS.mk bsc bus bpw bhk bhs bhn bhp bport bopq bpn bpl bhq bq bhf bfg false false []))).hs (((RS.init (an l)).aw (RS.mk bsc bus bpw bhk bhs bhn bhp bport bopq bpn bpl bhq bq bhf bfg false false []))).hn (((RS.init (an l)).aw (RS.mk bsc bus bpw bhk bhs bhn bhp bport bopq bpn bpl bhq bq bhf bfg false false []))).hp (((RS.init (an l)).aw (RS.mk bsc bus bpw bhk bhs bhn bhp bport bopq bpn bpl bhq bq bhf bfg false false []))).port (((RS.init (an l)).aw (RS.mk bsc bus bpw bhk bhs bhn bhp bport bopq bpn bpl bhq bq bhf bfg false false []))).opq (((RS.init (an l)).aw (RS.mk bsc bus bpw bhk bhs bhn bhp bport bopq bpn bpl bhq bq bhf bfg false false []))).pn (((RS.init (an l)).aw (RS.mk bsc bus bpw bhk bhs bhn bhp bport bopq bpn bpl bhq bq bhf bfg false false []))).pl (((RS.init (an l)).aw (RS.mk bsc bus bpw bhk bhs bhn bhp bport bopq bpn bpl bhq bq bhf bfg false false []))).hq (((RS.init (an l)).aw (RS.mk bsc bus bpw bhk bhs bhn bhp bport bopq bpn bpl bhq bq bhf bfg false false []))).q (((RS.init (an l)).aw (RS.mk bsc bus bpw bhk bhs bhn bhp bport bopq bpn bpl bhq bq bhf bfg false false []))).hf (((RS.init (an l)).aw (RS.mk bsc bus bpw bhk bhs bhn bhp bport bopq bpn bpl bhq bq bhf bfg false false []))).fg,.int .i64 0]) [bE 0 bsc bus bpw bhk bhs bhn bhp bport bopq bpn bpl bhq bq bhf bfg]:=bG (by kernel_rfl) yU (H:=yT l bsc bus bpw bhk bhs bhn bhp bport bopq bpn bpl bhq bq bhf bfg) (fuel:=1000) Tryz.func30 (by kernel_rfl) (Nat.le_of_ble_eq_true rfl) fun hpre=>(EA l bsc bus bpw bhk bhs bhn bhp bport bopq bpn bpl bhq bq bhf bfg _).mpr (by
 obtain ⟨h1,h2,h3,h4,h5,h6,h7,h8⟩:=hpre
 have hs:=ky l
 exact ⟨fun h=>absurd (of_decide_eq_true h) (by unfold ak;omega),fun _=>⟨h1,⟨by omega,h2,h3,h4,h5,h6,h7,h8⟩,(fun h=>absurd h (by decide)),fun _=>⟨rfl,rfl⟩⟩⟩)
theorem EC(l:Bs)(bsc bus bpw:Bs)(bhk:Int)(bhs:Bs)(bhn:Int)(bhp:List Int)(bport:Int)(bopq bpn:Bool)(bpl:List Bs)(bhq:Bool)(bq:Bs)(bhf:Bool)(bfg:Bs):ag Tryz.prog aA 30 [.str l,.ptr 0 0,bE 0 bsc bus bpw bhk bhs bhn bhp bport bopq bpn bpl bhq bq bhf bfg] ⟨l.length≤60000∧bpl.length≤100000∧(ab (an l) (an l) 0).2.2=false∧bopq=false∧bsc=fL∧az (ay bsc) (an l) 0=false∧bz (an l)=false∧bw (an l)=false,.tup [.tup [bE 0 (((RS.init (an l)).aw (RS.mk bsc bus bpw bhk bhs bhn bhp bport bopq bpn bpl bhq bq bhf bfg false false []))).sc (((RS.init (an l)).aw (RS.mk bsc bus bpw bhk bhs bhn bhp bport bopq bpn bpl bhq bq bhf bfg false false []))).us (((RS.init (an l)).aw (RS.mk bsc bus bpw bhk bhs bhn bhp bport bopq bpn bpl bhq bq bhf bfg false false []))).pw (((RS.init (an l)).aw (RS.mk bsc bus bpw bhk bhs bhn bhp bport bopq bpn bpl bhq bq bhf bfg false false []))).hk (((RS.init (an l)).aw (RS.mk bsc bus bpw bhk bhs bhn bhp bport bopq bpn bpl bhq bq bhf bfg false false []))).hs (((RS.init (an l)).aw (RS.mk bsc bus bpw bhk bhs bhn bhp bport bopq bpn bpl bhq bq bhf bfg false false []))).hn (((RS.init (an l)).aw (RS.mk bsc bus bpw bhk bhs bhn bhp bport bopq bpn bpl bhq bq bhf bfg false false []))).hp (((RS.init (an l)).aw (RS.mk bsc bus bpw bhk bhs bhn bhp bport bopq bpn bpl bhq bq bhf bfg false false []))).port (((RS.init (an l)).aw (RS.mk bsc bus bpw bhk bhs bhn bhp bport bopq bpn bpl bhq bq bhf bfg false false []))).opq (((RS.init (an l)).aw (RS.mk bsc bus bpw bhk bhs bhn bhp bport bopq bpn bpl bhq bq bhf bfg false false []))).pn (((RS.init (an l)).aw (RS.mk bsc bus bpw bhk bhs bhn bhp bport bopq bpn bpl bhq bq bhf bfg false false []))).pl (((RS.init (an l)).aw (RS.mk bsc bus bpw bhk bhs bhn bhp bport bopq bpn bpl bhq bq bhf bfg false false []))).hq (((RS.init (an l)).aw (RS.mk bsc bus bpw bhk bhs bhn bhp bport bopq bpn bpl bhq bq bhf bfg false false []))).q (((RS.init (an l)).aw (RS.mk bsc bus bpw bhk bhs bhn bhp bport bopq bpn bpl bhq bq bhf bfg false false []))).hf (((RS.init (an l)).aw (RS.mk bsc bus bpw bhk bhs bhn bhp bport bopq bpn bpl bhq bq bhf bfg false false []))).fg,.int .i64 0],bE 0 bsc bus bpw bhk bhs bhn bhp bport bopq bpn bpl bhq bq bhf bfg]⟩:=ag.bg (fun h=>by have e:List.isEmpty (PV.aB PV.bD [.str l,.ptr 0 0,bE 0 bsc bus bpw bhk bhs bhn bhp bport bopq bpn bpl bhq bq bhf bfg])=false:=(by kernel_rfl);exact Bool.noConfusion (e.symm.trans (congrArg List.isEmpty h))) (yV l bsc bus bpw bhk bhs bhn bhp bport bopq bpn bpl bhq bq bhf bfg)
def lN:List PV→Option aG:=fun xs=>match xs with
 |[.str l,.ptr 0 0,bE 0 bsc bus bpw bhk bhs bhn bhp bport bopq bpn bpl bhq bq bhf bfg]=>some ⟨l.length≤60000∧bpl.length≤100000∧(ab (an l) (an l) 0).2.2=false∧bopq=false∧bsc=fL∧az (ay bsc) (an l) 0=false∧bz (an l)=false∧bw (an l)=false,.tup [.tup [bE 0 (((RS.init (an l)).aw (RS.mk bsc bus bpw bhk bhs bhn bhp bport bopq bpn bpl bhq bq bhf bfg false false []))).sc (((RS.init (an l)).aw (RS.mk bsc bus bpw bhk bhs bhn bhp bport bopq bpn bpl bhq bq bhf bfg false false []))).us (((RS.init (an l)).aw (RS.mk bsc bus bpw bhk bhs bhn bhp bport bopq bpn bpl bhq bq bhf bfg false false []))).pw (((RS.init (an l)).aw (RS.mk bsc bus bpw bhk bhs bhn bhp bport bopq bpn bpl bhq bq bhf bfg false false []))).hk (((RS.init (an l)).aw (RS.mk bsc bus bpw bhk bhs bhn bhp bport bopq bpn bpl bhq bq bhf bfg false false []))).hs (((RS.init (an l)).aw (RS.mk bsc bus bpw bhk bhs bhn bhp bport bopq bpn bpl bhq bq bhf bfg false false []))).hn (((RS.init (an l)).aw (RS.mk bsc bus bpw bhk bhs bhn bhp bport bopq bpn bpl bhq bq bhf bfg false false []))).hp (((RS.init (an l)).aw (RS.mk bsc bus bpw bhk bhs bhn bhp bport bopq bpn bpl bhq bq bhf bfg false false []))).port (((RS.init (an l)).aw (RS.mk bsc bus bpw bhk bhs bhn bhp bport bopq bpn bpl bhq bq bhf bfg false false []))).opq (((RS.init (an l)).aw (RS.mk bsc bus bpw bhk bhs bhn bhp bport bopq bpn bpl bhq bq bhf bfg false false []))).pn (((RS.init (an l)).aw (RS.mk bsc bus bpw bhk bhs bhn bhp bport bopq bpn bpl bhq bq bhf bfg false false []))).pl (((RS.init (an l)).aw (RS.mk bsc bus bpw bhk bhs bhn bhp bport bopq bpn bpl bhq bq bhf bfg false false []))).hq (((RS.init (an l)).aw (RS.mk bsc bus bpw bhk bhs bhn bhp bport bopq bpn bpl bhq bq bhf bfg false false []))).q (((RS.init (an l)).aw (RS.mk bsc bus bpw bhk bhs bhn bhp bport bopq bpn bpl bhq bq bhf bfg false false []))).hf (((RS.init (an l)).aw (RS.mk bsc bus bpw bhk bhs bhn bhp bport bopq bpn bpl bhq bq bhf bfg false false []))).fg,.int .i64 0],bE 0 bsc bus bpw bhk bhs bhn bhp bport bopq bpn bpl bhq bq bhf bfg]⟩
 |_=>none
theorem sG:∀xs c,lN xs=some c→ag Tryz.prog aA 30 xs c:=fun xs c h=>by
 unfold lN at h
 split at h
 ·injection h with h;subst h;exact EC _ _ _ _ _ _ _ _ _ _ _ _ _ _ _ _
 ·cases h
end
section
def yW:cp:=bP [(30,lN)]
def yX(l:Bs)(bsc bus bpw:Bs)(bhk:Int)(bhs:Bs)(bhn:Int)(bhp:List Int)(bport:Int)(bopq bpn:Bool)(bpl:List Bs)(bhq:Bool)(bq:Bs)(bhf:Bool)(bfg:Bs):ba:=fun i=>none
theorem yY:cR Tryz.prog aA yW:=ai sG (ax)
theorem ED(l:Bs)(bsc bus bpw:Bs)(bhk:Int)(bhs:Bs)(bhn:Int)(bhp:List Int)(bport:Int)(bopq bpn:Bool)(bpl:List Bs)(bhq:Bool)(bq:Bs)(bhf:Bool)(bfg:Bs)(k:PV→Prop):cB Tryz.prog yW aA (yX l bsc bus bpw bhk bhs bhn bhp bport bopq bpn bpl bhq bq bhf bfg) 1000 Tryz.f21 [.str l,bE 0 bsc bus bpw bhk bhs bhn bhp bport bopq bpn bpl bhq bq bhf bfg] k=(
 (List.length l≤(60000:Nat)∧
 bpl.length≤(100000:Nat)∧
 (ab (an l) (an l)
 (0:Nat)).2.2=
 false∧
 bopq=false∧
 bsc=fL∧
 az (ay bsc) (an l) (0:Int)=
 false∧
 bz (an l)=false∧
 bw (an l)=false)∧
 k
 (PV.tup
 [bE (0:Nat) ((RS.init (an l)).aw
 (RS.mk bsc bus bpw bhk bhs bhn bhp bport bopq bpn bpl bhq bq bhf bfg false false [])).sc ((RS.init (an l)).aw
 (RS.mk bsc bus bpw bhk bhs bhn bhp bport bopq bpn bpl bhq bq bhf bfg false false [])).us ((RS.init (an l)).aw
 (RS.mk bsc bus bpw bhk bhs bhn bhp bport bopq bpn bpl bhq bq bhf bfg false false [])).pw ((RS.init (an l)).aw
 (RS.mk bsc bus bpw bhk bhs bhn bhp bport bopq bpn bpl bhq bq bhf bfg false false [])).hk ((RS.init (an l)).aw
 (RS.mk bsc bus bpw bhk bhs bhn bhp bport bopq bpn bpl bhq bq bhf bfg false false [])).hs ((RS.init (an l)).aw
 (RS.mk bsc bus bpw bhk bhs bhn bhp bport bopq bpn bpl bhq bq bhf bfg false false [])).hn ((RS.init (an l)).aw
 (RS.mk bsc bus bpw bhk bhs bhn bhp bport bopq bpn bpl bhq bq bhf bfg false false [])).hp ((RS.init (an l)).aw
 (RS.mk bsc bus bpw bhk bhs bhn bhp bport bopq bpn bpl bhq bq bhf bfg false false [])).port ((RS.init (an l)).aw
 (RS.mk bsc bus bpw bhk bhs bhn bhp bport bopq bpn bpl bhq bq bhf bfg false false [])).opq ((RS.init (an l)).aw
 (RS.mk bsc bus bpw bhk bhs bhn bhp bport bopq bpn bpl bhq bq bhf bfg false false [])).pn ((RS.init (an l)).aw
 (RS.mk bsc bus bpw bhk bhs bhn bhp bport bopq bpn bpl bhq bq bhf bfg false false [])).pl ((RS.init (an l)).aw
 (RS.mk bsc bus bpw bhk bhs bhn bhp bport bopq bpn bpl bhq bq bhf bfg false false [])).hq ((RS.init (an l)).aw
 (RS.mk bsc bus bpw bhk bhs bhn bhp bport bopq bpn bpl bhq bq bhf bfg false false [])).q ((RS.init (an l)).aw
 (RS.mk bsc bus bpw bhk bhs bhn bhp bport bopq bpn bpl bhq bq bhf bfg false false [])).hf ((RS.init (an l)).aw
 (RS.mk bsc bus bpw bhk bhs bhn bhp bport bopq bpn bpl bhq bq bhf bfg false false [])).fg,
 PV.int .i64 (0:Int)])):=by kernel_rfl
attribute [local irreducible] Go.Vc.cB
theorem EE(l:Bs)(bsc bus bpw:Bs)(bhk:Int)(bhs:Bs)(bhn:Int)(bhp:List Int)(bport:Int)(bopq bpn:Bool)(bpl:List Bs)(bhq:Bool)(bq:Bs)(bhf:Bool)(bfg:Bs):ag Tryz.prog aA 21 [.str l,bE 0 bsc bus bpw bhk bhs bhn bhp bport bopq bpn bpl bhq bq bhf bfg] ⟨l.length≤60000∧bpl.length≤100000∧(ab (an l) (an l) 0).2.2=false∧bopq=false∧bsc=fL∧az (ay bsc) (an l) 0=false∧bz (an l)=false∧bw (an l)=false,.tup [bE 0 (((RS.init (an l)).aw (RS.mk bsc bus bpw bhk bhs bhn bhp bport bopq bpn bpl bhq bq bhf bfg false false []))).sc (((RS.init (an l)).aw (RS.mk bsc bus bpw bhk bhs bhn bhp bport bopq bpn bpl bhq bq bhf bfg false false []))).us (((RS.init (an l)).aw (RS.mk bsc bus bpw bhk bhs bhn bhp bport bopq bpn bpl bhq bq bhf bfg false false []))).pw (((RS.init (an l)).aw (RS.mk bsc bus bpw bhk bhs bhn bhp bport bopq bpn bpl bhq bq bhf bfg false false []))).hk (((RS.init (an l)).aw (RS.mk bsc bus bpw bhk bhs bhn bhp bport bopq bpn bpl bhq bq bhf bfg false false []))).hs (((RS.init (an l)).aw (RS.mk bsc bus bpw bhk bhs bhn bhp bport bopq bpn bpl bhq bq bhf bfg false false []))).hn (((RS.init (an l)).aw (RS.mk bsc bus bpw bhk bhs bhn bhp bport bopq bpn bpl bhq bq bhf bfg false false []))).hp (((RS.init (an l)).aw (RS.mk bsc bus bpw bhk bhs bhn bhp bport bopq bpn bpl bhq bq bhf bfg false false []))).port (((RS.init (an l)).aw (RS.mk bsc bus bpw bhk bhs bhn bhp bport bopq bpn bpl bhq bq bhf bfg false false []))).opq (((RS.init (an l)).aw (RS.mk bsc bus bpw bhk bhs bhn bhp bport bopq bpn bpl bhq bq bhf bfg false false []))).pn (((RS.init (an l)).aw (RS.mk bsc bus bpw bhk bhs bhn bhp bport bopq bpn bpl bhq bq bhf bfg false false []))).pl (((RS.init (an l)).aw (RS.mk bsc bus bpw bhk bhs bhn bhp bport bopq bpn bpl bhq bq bhf bfg false false []))).hq (((RS.init (an l)).aw (RS.mk bsc bus bpw bhk bhs bhn bhp bport bopq bpn bpl bhq bq bhf bfg false false []))).q (((RS.init (an l)).aw (RS.mk bsc bus bpw bhk bhs bhn bhp bport bopq bpn bpl bhq bq bhf bfg false false []))).hf (((RS.init (an l)).aw (RS.mk bsc bus bpw bhk bhs bhn bhp bport bopq bpn bpl bhq bq bhf bfg false false []))).fg,.int .i64 0]⟩:=bY (by kernel_rfl) yY (H:=yX l bsc bus bpw bhk bhs bhn bhp bport bopq bpn bpl bhq bq bhf bfg) (fuel:=1000) Tryz.func21 (by kernel_rfl) fun hpre=>(ED l bsc bus bpw bhk bhs bhn bhp bport bopq bpn bpl bhq bq bhf bfg _).mpr (by
 exact ⟨hpre,rfl⟩)
end
section
attribute [local instance] Lc
noncomputable def bZ(l:Bs):RS×Int:=Classical.choose (⟨bm l,rfl⟩:∃x,x=bm l)
theorem kz(l:Bs):bZ l=bm l:=Classical.choose_spec (⟨bm l,rfl⟩:∃x,x=bm l)
noncomputable def cJ(l:Bs)(b:RS):RS:=Classical.choose (⟨(RS.init (an l)).aw b,rfl⟩:∃x,x=(RS.init (an l)).aw b)
theorem yZ(l:Bs)(b:RS):cJ l b=(RS.init (an l)).aw b:=Classical.choose_spec (⟨(RS.init (an l)).aw b,rfl⟩:∃x,x=(RS.init (an l)).aw b)
@[irreducible] def wj (l:Bs):Prop:=l.length≤60000
theorem EF(l:Bs):wj l=(l.length≤60000):=by unfold wj;rfl
@[irreducible] def JD (l:Bs) (bsc bus bpw:Bs) (bhk:Int) (bhs:Bs) (bhn:Int) (bhp:List Int) (bport:Int) (bopq bpn:Bool) (bpl:List Bs) (bhq:Bool) (bq:Bs) (bhf:Bool) (bfg:Bs):Prop:=l.length≤60000∧bpl.length≤100000∧(ab (an l) (an l) 0).2.2=false∧bopq=false∧bsc=fL∧az (ay bsc) (an l) 0=false∧bz (an l)=false∧bw (an l)=false
theorem JE(l:Bs)(bsc bus bpw:Bs)(bhk:Int)(bhs:Bs)(bhn:Int)(bhp:List Int)(bport:Int)(bopq bpn:Bool)(bpl:List Bs)(bhq:Bool)(bq:Bs)(bhf:Bool)(bfg:Bs):JD l bsc bus bpw bhk bhs bhn bhp bport bopq bpn bpl bhq bq bhf bfg=(l.length≤60000∧bpl.length≤100000∧(ab (an l) (an l) 0).2.2=false∧bopq=false∧bsc=fL∧az (ay bsc) (an l) 0=false∧bz (an l)=false∧bw (an l)=false):=by unfold JD;rfl
theorem EG(l:Bs):ag Tryz.prog aA 19 [.str l] ⟨wj l,.tup [bE 0 ((bZ l).1).sc ((bZ l).1).us ((bZ l).1).pw ((bZ l).1).hk ((bZ l).1).hs ((bZ l).1).hn ((bZ l).1).hp ((bZ l).1).port ((bZ l).1).opq ((bZ l).1).pn ((bZ l).1).pl ((bZ l).1).hq ((bZ l).1).q ((bZ l).1).hf ((bZ l).1).fg,.int .i64 (bZ l).2]⟩:=(Ep l).to (fun h=>by rw [EF]at h;exact h) (fun _=>by rw [kz])
noncomputable def ju:List PV→Option aG:=fun xs=>match xs with
 |[.str l]=>some ⟨wj l,.tup [bE 0 ((bZ l).1).sc ((bZ l).1).us ((bZ l).1).pw ((bZ l).1).hk ((bZ l).1).hs ((bZ l).1).hn ((bZ l).1).hp ((bZ l).1).port ((bZ l).1).opq ((bZ l).1).pn ((bZ l).1).pl ((bZ l).1).hq ((bZ l).1).q ((bZ l).1).hf ((bZ l).1).fg,.int .i64 (bZ l).2]⟩
 |_=>none
theorem kS:∀xs c,ju xs=some c→ag Tryz.prog aA 19 xs c:=fun xs c h=>by
 unfold ju at h
 split at h
 ·injection h with h;subst h;exact EG _
 ·cases h
theorem Hw(l:Bs)(bsc bus bpw:Bs)(bhk:Int)(bhs:Bs)(bhn:Int)(bhp:List Int)(bport:Int)(bopq bpn:Bool)(bpl:List Bs)(bhq:Bool)(bq:Bs)(bhf:Bool)(bfg:Bs):ag Tryz.prog aA 21 [.str l,bE 0 bsc bus bpw bhk bhs bhn bhp bport bopq bpn bpl bhq bq bhf bfg] ⟨JD l bsc bus bpw bhk bhs bhn bhp bport bopq bpn bpl bhq bq bhf bfg,.tup [bE 0 ((cJ l (RS.mk bsc bus bpw bhk bhs bhn bhp bport bopq bpn bpl bhq bq bhf bfg false false []))).sc ((cJ l (RS.mk bsc bus bpw bhk bhs bhn bhp bport bopq bpn bpl bhq bq bhf bfg false false []))).us ((cJ l (RS.mk bsc bus bpw bhk bhs bhn bhp bport bopq bpn bpl bhq bq bhf bfg false false []))).pw ((cJ l (RS.mk bsc bus bpw bhk bhs bhn bhp bport bopq bpn bpl bhq bq bhf bfg false false []))).hk ((cJ l (RS.mk bsc bus bpw bhk bhs bhn bhp bport bopq bpn bpl bhq bq bhf bfg false false []))).hs ((cJ l (RS.mk bsc bus bpw bhk bhs bhn bhp bport bopq bpn bpl bhq bq bhf bfg false false []))).hn ((cJ l (RS.mk bsc bus bpw bhk bhs bhn bhp bport bopq bpn bpl bhq bq bhf bfg false false []))).hp ((cJ l (RS.mk bsc bus bpw bhk bhs bhn bhp bport bopq bpn bpl bhq bq bhf bfg false false []))).port ((cJ l (RS.mk bsc bus bpw bhk bhs bhn bhp bport bopq bpn bpl bhq bq bhf bfg false false []))).opq ((cJ l (RS.mk bsc bus bpw bhk bhs bhn bhp bport bopq bpn bpl bhq bq bhf bfg false false []))).pn ((cJ l (RS.mk bsc bus bpw bhk bhs bhn bhp bport bopq bpn bpl bhq bq bhf bfg false false []))).pl ((cJ l (RS.mk bsc bus bpw bhk bhs bhn bhp bport bopq bpn bpl bhq bq bhf bfg false false []))).hq ((cJ l (RS.mk bsc bus bpw bhk bhs bhn bhp bport bopq bpn bpl bhq bq bhf bfg false false []))).q ((cJ l (RS.mk bsc bus bpw bhk bhs bhn bhp bport bopq bpn bpl bhq bq bhf bfg false false []))).hf ((cJ l (RS.mk bsc bus bpw bhk bhs bhn bhp bport bopq bpn bpl bhq bq bhf bfg false false []))).fg,.int .i64 0]⟩:=(EE l bsc bus bpw bhk bhs bhn bhp bport bopq bpn bpl bhq bq bhf bfg).to (fun h=>by rw [JE]at h;exact h) (fun _=>by rw [yZ])
noncomputable def ox:List PV→Option aG:=fun xs=>match xs with
 |[.str l,bE 0 bsc bus bpw bhk bhs bhn bhp bport bopq bpn bpl bhq bq bhf bfg]=>some ⟨JD l bsc bus bpw bhk bhs bhn bhp bport bopq bpn bpl bhq bq bhf bfg,.tup [bE 0 ((cJ l (RS.mk bsc bus bpw bhk bhs bhn bhp bport bopq bpn bpl bhq bq bhf bfg false false []))).sc ((cJ l (RS.mk bsc bus bpw bhk bhs bhn bhp bport bopq bpn bpl bhq bq bhf bfg false false []))).us ((cJ l (RS.mk bsc bus bpw bhk bhs bhn bhp bport bopq bpn bpl bhq bq bhf bfg false false []))).pw ((cJ l (RS.mk bsc bus bpw bhk bhs bhn bhp bport bopq bpn bpl bhq bq bhf bfg false false []))).hk ((cJ l (RS.mk bsc bus bpw bhk bhs bhn bhp bport bopq bpn bpl bhq bq bhf bfg false false []))).hs ((cJ l (RS.mk bsc bus bpw bhk bhs bhn bhp bport bopq bpn bpl bhq bq bhf bfg false false []))).hn ((cJ l (RS.mk bsc bus bpw bhk bhs bhn bhp bport bopq bpn bpl bhq bq bhf bfg false false []))).hp ((cJ l (RS.mk bsc bus bpw bhk bhs bhn bhp bport bopq bpn bpl bhq bq bhf bfg false false []))).port ((cJ l (RS.mk bsc bus bpw bhk bhs bhn bhp bport bopq bpn bpl bhq bq bhf bfg false false []))).opq ((cJ l (RS.mk bsc bus bpw bhk bhs bhn bhp bport bopq bpn bpl bhq bq bhf bfg false false []))).pn ((cJ l (RS.mk bsc bus bpw bhk bhs bhn bhp bport bopq bpn bpl bhq bq bhf bfg false false []))).pl ((cJ l (RS.mk bsc bus bpw bhk bhs bhn bhp bport bopq bpn bpl bhq bq bhf bfg false false []))).hq ((cJ l (RS.mk bsc bus bpw bhk bhs bhn bhp bport bopq bpn bpl bhq bq bhf bfg false false []))).q ((cJ l (RS.mk bsc bus bpw bhk bhs bhn bhp bport bopq bpn bpl bhq bq bhf bfg false false []))).hf ((cJ l (RS.mk bsc bus bpw bhk bhs bhn bhp bport bopq bpn bpl bhq bq bhf bfg false false []))).fg,.int .i64 0]⟩
 |_=>none
theorem wk:∀xs c,ox xs=some c→ag Tryz.prog aA 21 xs c:=fun xs c h=>by
 unfold ox at h
 split at h
 ·injection h with h;subst h;exact Hw _ _ _ _ _ _ _ _ _ _ _ _ _ _ _ _
 ·cases h
end
section
def Mc:Bs:=[72,84,84,80,58,92,92,117,64,104,58,56,48,47,97,47,46,46,47,98,63]
def Md:Bs:=[102,105,108,101,58,47,47,47,67,58,47,121]
def LM:Bs:=[46,46,92,120]
def aH:Bs:=[104,116,116,112]
def aV:Bs:=[119,115,115]
noncomputable def oy:RS×Int:=bZ Mc
noncomputable def oz:RS×Int:=bZ Md
noncomputable def aJ:RS:=cJ LM (RS.mk oz.1.sc oz.1.us oz.1.pw oz.1.hk oz.1.hs oz.1.hn oz.1.hp oz.1.port oz.1.opq oz.1.pn oz.1.pl oz.1.hq oz.1.q oz.1.hf oz.1.fg false false [])
theorem Mi:oy.2=0∧oy.1.sc=aH∧oy.1.us=[117]∧oy.1.port=-1∧oy.1.pl=[[98]]∧oy.1.hq=true:=by
 unfold oy;rw [kz];decide+kernel
theorem Mj:oz.2=0∧oz.1.sc=fL∧oz.1.opq=false∧oz.1.pl.length≤100000:=by
 unfold oz;rw [kz];decide+kernel
theorem Me:aJ.pl=[[67,58],[120]]:=by
 unfold aJ oz;rw [kz,yZ];decide+kernel
noncomputable def Cr:cp:=bP [(19,ju),(21,ox),(27,dQ)]
def Cs:ba:=fun i=>none
theorem Bd:cR Tryz.prog aA Cr:=ai kS (ai wk (ai dR (ax)))
theorem Hy(k:PV→Prop):cB Tryz.prog Cr aA (Cs) 1000 Tryz.f14 [] k=(
 Mc.length.le (60000:Nat)∧Md.length.le (60000:Nat)∧(LM.length≤(60000:Nat)∧oz.1.pl.length≤(100000:Nat)∧false=false∧oz.1.opq=false∧oz.1.sc=fL∧az (ay oz.1.sc) (an LM) (0:Int)=false∧bz (an LM)=false∧bw (an LM)=false)∧True∧((bif bif bif bif decide (oy.2=(0:Int))then decide (oy.1.sc=aH)else false then decide (oy.1.us=([117]:Bs))else false then decide (oy.1.port=(-1:Int))else false then decide (Int.ofNat oy.1.pl.length=(1:Int))else false)=true→within (0:Int) (Int.ofNat oy.1.pl.length))∧((bif bif bif bif bif bif bif bif bif decide (oy.2=(0:Int))then decide (oy.1.sc=aH)else false then decide (oy.1.us=([117]:Bs))else false then decide (oy.1.port=(-1:Int))else false then decide (Int.ofNat oy.1.pl.length=(1:Int))else false then decide (eH oy.1.pl (0:Int)=([98]:Bs))else false then oy.1.hq else false then decide (oz.2=(0:Int))else false then decide ((0:Int)=(0:Int))else false then decide (Int.ofNat aJ.pl.length=(2:Int))else false)=true→within (1:Int) (Int.ofNat aJ.pl.length))∧k (PV.bool (bif bif bif bif bif bif bif bif bif bif bif bif decide (oy.2=(0:Int))then decide (oy.1.sc=aH)else false then decide (oy.1.us=([117]:Bs))else false then decide (oy.1.port=(-1:Int))else false then decide (Int.ofNat oy.1.pl.length=(1:Int))else false then decide (eH oy.1.pl (0:Int)=([98]:Bs))else false then oy.1.hq else false then decide (oz.2=(0:Int))else false then decide ((0:Int)=(0:Int))else false then decide (Int.ofNat aJ.pl.length=(2:Int))else false then decide (eH aJ.pl (1:Int)=([120]:Bs))else false then decide (IU aV=(443:Int))else false then ay aV else false))):=by kernel_rfl
attribute [local irreducible] Go.Vc.cB
theorem Hz:ag Tryz.prog aA 14 [] ⟨True,.bool true⟩:=bY (by kernel_rfl) Bd (H:=Cs) (fuel:=1000) Tryz.func14 (by kernel_rfl) fun hpre=>(Hy _).mpr (by
 obtain ⟨h1,h2,h3,h4,h5,h6⟩:=Mi
 obtain ⟨g1,g2,g3,g4⟩:=Mj
 refine ⟨show(21:Nat)≤60000 by decide,show(12:Nat)≤60000 by decide,⟨show(4:Nat)≤60000 by decide,g4,rfl,g3,g2,by rw [g2];decide,by decide,by decide⟩,trivial,fun _=>by rw [h5];exact ⟨by decide,by decide⟩,fun _=>by rw [Me];exact ⟨by decide,by decide⟩,?_⟩
 rw [h1,h2,h3,h4,h5,h6,g1,Me]
 exact congrArg PV.bool (by decide+kernel))
def oA:List PV→Option aG:=fun xs=>match xs with
 |[]=>some ⟨True,.bool true⟩
 |_=>none
theorem wm:∀xs c,oA xs=some c→ag Tryz.prog aA 14 xs c:=fun xs c h=>by
 unfold oA at h
 split at h
 ·injection h with h;subst h;exact Hz
 ·cases h
end
section
def LP(s:Bs)(i:Int):Prop:=∀b∈s.take i.toNat,32<b.toNat∧b≠35
def LQ(f:Bs)(i:Int):Prop:=(∀b∈f.take i.toNat,31<b.toNat)∧(f.length≤i.toNat→f.getLast?≠some 32)
def RS.Ld(r:RS):RS:=RS.mk r.sc r.us r.pw r.hk r.hs r.hn r.hp r.port r.opq r.pn r.pl r.hq r.q r.hf r.fg false false []
noncomputable def EH(a f:Bs):RS×Int:=bZ (a++[35]++f)
theorem y1 {l:Bs}{x:Int}(h0:0≤x)(h1:x<l.length):l.take (x+1).toNat=l.take x.toNat++[l.getD x.toNat 0]:=by
 rw [show(x+1).toNat=x.toNat+1 by omega,List.take_succ_eq_append_getElem (by omega),List.getD_eq_getElem?_getD,List.getElem?_eq_getElem (by omega)]
 rfl
noncomputable def y2:cp:=bP [(13,qT),(19,ju),(14,oA),(22,ov),(26,eB)]
def y3(a f:Bs):ba:=fun i=>bif Nat.beq i 4 then some ⟨(Int),(fun s x=>(((s.put 5 (.int .i64 x)).put 19 .undef).put 31 .undef)),(fun s=>s.int 5),(fun s x=>let i:=x;0≤i∧i≤a.length∧LP a i),(fun s x=>let i:=x;((a.length:Int)-i).toNat),[19,31]⟩else bif Nat.beq i 9 then some ⟨(Int),(fun s x=>(((s.put 6 (.int .i64 x)).put 36 .undef).put 55 .undef)),(fun s=>s.int 6),(fun s x=>let i:=x;0≤i∧i≤f.length∧LQ f i),(fun s x=>let i:=x;((f.length:Int)-i).toNat),[36,55]⟩else none
theorem y4:cR Tryz.prog aA y2:=ai xS (ai kS (ai wm (ai vY (ai du (ax)))))
theorem EI(a f:Bs)(k:PV→Prop):cB Tryz.prog y2 aA (y3 a f) 1000 Tryz.f12 [.str a,.str f] k=(
 ((-1000000:Int)≤(200:Int)∧(200:Int)≤(1000000:Int)∧[a,f].length≤(10:Nat))∧(dX (200:Int) [a,f]=true→True∧k (PV.bool true))∧(dX (200:Int) [a,f]=false→VS.mk [] [(0,PV.str a),(1,PV.str f),(4,PV.bool false),(5,PV.int .i64 (0:Int)),(6,PV.undef),(7,PV.undef),(8,PV.undef),(9,PV.undef),(10,PV.undef),(14,PV.bool (dX (200:Int) [a,f])),((19:Nat),PV.undef),((31:Nat),PV.undef),(36,PV.undef),(55,PV.undef),(71,PV.undef)] []=VS.mk [] [(0,PV.str a),(1,PV.str f),(4,PV.bool false),((5:Nat),PV.int .i64 (0:Int)),(6,PV.undef),(7,PV.undef),(8,PV.undef),(9,PV.undef),(10,PV.undef),(14,PV.bool (dX (200:Int) [a,f])),((19:Nat),PV.undef),((31:Nat),PV.undef),(36,PV.undef),(55,PV.undef),(71,PV.undef)] []∧((0:Int)≤(0:Int)∧(0:Int)≤↑(List.length a)∧LP a (0:Int))∧∀(x:Int),(0:Int)≤x∧x≤↑(List.length a)∧LP a x→(decide (x<ak a)=true→within x (ak a)∧(decide (al a x≤(32:Int))=false→within x (ak a))∧((bif decide (al a x≤(32:Int))then true else decide (al a x=(35:Int)))=true→True∧k (PV.bool true))∧((bif decide (al a x≤(32:Int))then true else decide (al a x=(35:Int)))=false→aD (x+(1:Int))∧rV (VS.mk [] [(0,PV.str a),(1,PV.str f),(4,PV.bool false),((5:Nat),PV.int .i64 (x+(1:Int))),(6,PV.undef),(7,PV.undef),(8,PV.undef),(9,PV.undef),(10,PV.undef),(14,PV.bool (dX (200:Int) [a,f])),((19:Nat),PV.undef),((31:Nat),PV.undef),(36,PV.undef),(55,PV.undef),(71,PV.undef)] [])∧((0:Int)≤x+(1:Int)∧x+(1:Int)≤↑(List.length a)∧LP a (x+(1:Int)))∧(↑(List.length a)-(x+(1:Int))).toNat<(↑(List.length a)-x).toNat))∧(decide (x<ak a)=false→VS.mk [] [(0,PV.str a),(1,PV.str f),(4,PV.bool false),((5:Nat),PV.int .i64 x),(6,PV.int .i64 (0:Int)),(7,PV.undef),(8,PV.undef),(9,PV.undef),(10,PV.undef),(14,PV.bool (dX (200:Int) [a,f])),((19:Nat),PV.bool (decide (x<ak a))),((31:Nat),PV.undef),((36:Nat),PV.undef),((55:Nat),PV.undef),(71,PV.undef)] []=VS.mk [] [(0,PV.str a),(1,PV.str f),(4,PV.bool false),((5:Nat),PV.int .i64 x),((6:Nat),PV.int .i64 (0:Int)),(7,PV.undef),(8,PV.undef),(9,PV.undef),(10,PV.undef),(14,PV.bool (dX (200:Int) [a,f])),((19:Nat),PV.bool (decide (x<ak a))),((31:Nat),PV.undef),((36:Nat),PV.undef),((55:Nat),PV.undef),(71,PV.undef)] []∧((0:Int)≤(0:Int)∧(0:Int)≤↑(List.length f)∧LQ f (0:Int))∧∀(x_1:Int),(0:Int)≤x_1∧x_1≤↑(List.length f)∧LQ f x_1→(decide (x_1<ak f)=true→within x_1 (ak f)∧(decide (al f x_1<(32:Int))=false→within x_1 (ak f))∧(decide (al f x_1<(32:Int))=false→decide (al f x_1=(32:Int))=true→aD (ak f-(1:Int)))∧((bif decide (al f x_1<(32:Int))then true else bif decide (al f x_1=(32:Int))then decide (x_1=ak f-(1:Int))else false)=true→True∧k (PV.bool true))∧((bif decide (al f x_1<(32:Int))then true else bif decide (al f x_1=(32:Int))then decide (x_1=ak f-(1:Int))else false)=false→aD (x_1+(1:Int))∧rV (VS.mk [] [(0,PV.str a),(1,PV.str f),(4,PV.bool false),((5:Nat),PV.int .i64 x),((6:Nat),PV.int .i64 (x_1+(1:Int))),(7,PV.undef),(8,PV.undef),(9,PV.undef),(10,PV.undef),(14,PV.bool (dX (200:Int) [a,f])),((19:Nat),PV.bool (decide (x<ak a))),((31:Nat),PV.undef),((36:Nat),PV.undef),((55:Nat),PV.undef),(71,PV.undef)] [])∧((0:Int)≤x_1+(1:Int)∧x_1+(1:Int)≤↑(List.length f)∧LQ f (x_1+(1:Int)))∧(↑(List.length f)-(x_1+(1:Int))).toNat<(↑(List.length f)-x_1).toNat))∧(decide (x_1<ak f)=false→(List.length a).le (60000:Nat)∧List.length a+([35]:Bs).length≤Go.Vc.maxLen∧List.length (a++([35]:Bs))+List.length f≤Go.Vc.maxLen∧(List.length (a++([35]:Bs)++f)).le (60000:Nat)∧((!decide ((bZ a).2=(0:Int)))=true→(decide ((EH a f).2=(bZ a).2)=true→(EH a f).1.pl.length.le (1000000:Nat))∧((bif decide ((EH a f).2=(bZ a).2)then decide (kR (RS.Ld (EH a f).1) (RS.mk [] [] [] (0:Int) [] (0:Int) (List.replicate (8:Nat) (0:Int)) (0:Int) false true [] false [] false [] false false []))else false)=true→True)∧k (PV.bool (bif bif decide ((EH a f).2=(bZ a).2)then decide (kR (RS.Ld (EH a f).1) (RS.mk [] [] [] (0:Int) [] (0:Int) (List.replicate (8:Nat) (0:Int)) (0:Int) false true [] false [] false [] false false []))else false then true else false)))∧((!decide ((bZ a).2=(0:Int)))=false→(List.length f≤(300000:Nat)∧(0:Int)≤(1:Int)∧(1:Int)≤(6:Int))∧(decide ((EH a f).2=(0:Int))=true→(bZ a).1.pl.length.le (1000000:Nat))∧((bif decide ((EH a f).2=(0:Int))then decide (kR (RS.mk (bZ a).1.sc (bZ a).1.us (bZ a).1.pw (bZ a).1.hk (bZ a).1.hs (bZ a).1.hn (bZ a).1.hp (bZ a).1.port (bZ a).1.opq (bZ a).1.pn (bZ a).1.pl (bZ a).1.hq (bZ a).1.q true (bl (1:Int) f) false false []) (RS.Ld (EH a f).1))else false)=true→True)∧k (PV.bool (bif bif decide ((EH a f).2=(0:Int))then decide (kR (RS.mk (bZ a).1.sc (bZ a).1.us (bZ a).1.pw (bZ a).1.hk (bZ a).1.hs (bZ a).1.hn (bZ a).1.hp (bZ a).1.port (bZ a).1.opq (bZ a).1.pn (bZ a).1.pl (bZ a).1.hq (bZ a).1.q true (bl (1:Int) f) false false []) (RS.Ld (EH a f).1))else false then true else false))))))):=by kernel_rfl
attribute [local irreducible] Go.Vc.cB
theorem EJ(a f:Bs):ag Tryz.prog aA 12 [.str a,.str f] ⟨True,.bool true⟩:=bY (by kernel_rfl) y4 (H:=y3 a f) (fuel:=1000) Tryz.func12 (by kernel_rfl) fun hpre=>(EI a f _).mpr (by
 have mx:∀n:Nat,n≤1000→n≤Go.Vc.maxLen:=fun n h=>Nat.le_trans h (by decide)
 refine ⟨⟨by omega,by omega,show(2:Nat)≤10 by decide⟩,fun _=>⟨trivial,rfl⟩,fun hw=>?_⟩
 have hb:a.length<200∧f.length<200:=by
  unfold dX at hw
  split at hw
  ·cases hw
  ·unfold dX at hw
   split at hw
   ·cases hw
   ·omega
 obtain ⟨ha,hf⟩:=hb
 refine ⟨rfl,⟨by omega,by omega,fun b hb=>by simp at hb⟩,fun x ⟨h0,h1,h2⟩=>⟨fun h=>?_,fun h=>?_⟩⟩
 ·have hlt:x<a.length:=of_decide_eq_true h
  have hwi:within x (ak a):=⟨h0,hlt⟩
  refine ⟨hwi,fun _=>hwi,fun _=>⟨trivial,rfl⟩,fun g=>⟨by unfold aD;omega,rfl,⟨by omega,by omega,?_⟩,by omega⟩⟩
  intro b hb
  rw [y1 h0 hlt]at hb
  rcases List.mem_append.1 hb with hb|hb
  ·exact h2 b hb
  ·have hb:b=a.getD x.toNat 0:=by simpa using hb
   have e:al a x=b.toNat:=by rw [hb];rfl
   rw [e,LO,Bool.or_eq_false_iff,decide_eq_false_iff_not,decide_eq_false_iff_not]at g
   exact ⟨by omega,fun e=>g.2 (by subst e;rfl)⟩
 refine ⟨rfl,⟨by omega,by omega,fun b hb=>by simp at hb,fun hz=>?_⟩,fun y ⟨k0,k1,k2⟩=>⟨fun g=>?_,fun g=>?_⟩⟩
 ·have:f=[]:=List.eq_nil_of_length_eq_zero (by simpa using hz)
  subst this;simp
 ·have hlt:y<f.length:=of_decide_eq_true g
  have hwi:within y (ak f):=⟨k0,hlt⟩
  refine ⟨hwi,fun _=>hwi,fun _ _=>by unfold aD ak;omega,fun _=>⟨trivial,rfl⟩,fun g=>⟨by unfold aD;omega,rfl,⟨by omega,by omega,?_,fun hz=>?_⟩,by omega⟩⟩
  ·intro b hb
   rw [y1 k0 hlt]at hb
   rcases List.mem_append.1 hb with hb|hb
   ·exact k2.1 b hb
   ·have hb:b=f.getD y.toNat 0:=by simpa using hb
    have e:al f y=b.toNat:=by rw [hb];rfl
    rw [e,LO,Bool.or_eq_false_iff,decide_eq_false_iff_not]at g
    omega
  ·have hy:y=f.length-1:=by omega
   have hl:f.getLast?=some (f.getD y.toNat 0):=by
    rw [List.getLast?_eq_getElem?,List.getD_eq_getElem?_getD,show f.length-1=y.toNat by omega,List.getElem?_eq_getElem (by omega)];rfl
   rw [hl]
   intro e
   injection e with e
   have e2:al f y=32:=by unfold al;rw [e];rfl
   rw [e2]at g
   have e3:decide (y=ak f-1)=true:=decide_eq_true hy
   rw [e3]at g;exact absurd g (by decide)
 have hsA:∀b∈a,32<b.toNat∧b≠35:=fun b hb=>h2 b (by
  have:¬x<a.length:=of_decide_eq_false h
  rw [List.take_of_length_le (by omega)];exact hb)
 have hyf:¬y<f.length:=of_decide_eq_false g
 have hfA:∀b∈f,31<b.toNat:=fun b hb=>k2.1 b (by rw [List.take_of_length_le (by omega)];exact hb)
 have hfL:f.getLast?≠some 32:=k2.2 (by omega)
 obtain ⟨u1,u2,u3⟩:=Hv hsA hfA hfL
 have eU:EH a f=bm (a++35::f):=by unfold EH;rw [kz,List.append_assoc];rfl
 have eA:bZ a=bm a:=kz a
 have pa:=Cq a
 have pf:=Cq (a++35::f)
 have sa:=ky a
 have sf:=ky (a++35::f)
 rw [List.length_append,List.length_cons]at sf
 rw [eU,eA]
 refine ⟨show a.length≤60000 by omega,mx _ (show a.length+1≤1000 by omega),mx _ (by rw [List.length_append];show a.length+1+f.length≤1000;omega),?_,fun he=>⟨fun _=>Nat.le_trans pf (by omega),fun _=>trivial,?_⟩,fun he=>⟨⟨by omega,by omega,by omega⟩,fun _=>Nat.le_trans pa (by omega),fun _=>trivial,?_⟩⟩
 ·show List.length _ ≤60000
  rw [List.length_append,List.length_append]
  show a.length+1+f.length≤60000
  omega
 ·have h0:(bm a).2≠0:=by
   intro e;rw [e]at he;cases he
  have hs:kR (bm (a++35::f)).1.Ld (RS.mk [] [] [] (0:Int) [] (0:Int) (List.replicate (8:Nat) (0:Int)) (0:Int) false true [] false [] false [] false false []):=by
   rw [u3 h0];decide
  rw [decide_eq_true u1,decide_eq_true hs];rfl
 ·have h0:(bm a).2=0:=by
   cases e:decide ((bm a).2=0)with
   |true=>exact of_decide_eq_true e
   |false=>rw [e]at he;cases he
  have e1:(bm (a++35::f)).2=0:=by rw [u1];exact h0
  have e2:=u2 h0
  rw [decide_eq_true e1]
  have hs:∀z:RS,z=(bm a).1.fin (aK f)→kR (RS.mk (bm a).1.sc (bm a).1.us (bm a).1.pw (bm a).1.hk (bm a).1.hs (bm a).1.hn (bm a).1.hp (bm a).1.port (bm a).1.opq (bm a).1.pn (bm a).1.pl (bm a).1.hq (bm a).1.q true (bl (1:Int) f) false false []) z.Ld:=fun z hz=>by
   subst hz
   exact ⟨rfl,rfl,rfl,rfl,rfl,rfl,rfl,rfl,rfl,rfl,rfl,rfl,rfl,(A6 1 f).symm⟩
  rw [decide_eq_true (hs _ e2)];rfl)
end
theorem rU(a0:ByteArray)(a1:ByteArray)(w:World)(w0:a0.size≤maxLen)(w1:a1.size≤maxLen)(htab:pk w):
 Calls Tryz.prog 12 #[.string a0,.string a1] w fun e w'=>e=.returned (.bool true)∧Below w.heap.size w w':=by
 have hx:au [.str a0.data.toList,.str a1.data.toList] (iH (fun _ _=>none)) w [.string a0,.string a1]:=
  ⟨_,_,rfl,rfl,⟨_,_,rfl,rfl,rfl⟩⟩
 refine (ag.walk (fn:=Tryz.f12) Tryz.func12 (by kernel_rfl) rfl (EJ a0.data.toList a1.data.toList) (trivial) (fun b o u h=>by cases h) (zx _) htab hx).mono fun e w' ⟨u,he,F',_,hb,_,_,_,_,hu⟩=>⟨by rw [he];exact congrArg _ hu,hb⟩
end Go.Proofs.YtmfapopclbnlpaaGreatDoor
