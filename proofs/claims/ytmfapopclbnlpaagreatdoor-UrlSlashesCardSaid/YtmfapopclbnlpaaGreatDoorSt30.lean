import Derived.Test.YtmfapopclbnlpaaGreatDoorProg
import Derived.ProofKit
import Derived.Test.YtmfapopclbnlpaaGreatDoorSt6
import Derived.Test.YtmfapopclbnlpaaGreatDoorSt18
import Derived.Test.YtmfapopclbnlpaaGreatDoorSt19
import Derived.Test.YtmfapopclbnlpaaGreatDoorSt20
import Derived.Test.YtmfapopclbnlpaaGreatDoorSt25
import Derived.Test.YtmfapopclbnlpaaGreatDoorSt28
import Derived.Test.YtmfapopclbnlpaaGreatDoorSt29
set_option linter.unusedVariables false
set_option linter.unusedSimpArgs false
set_option maxRecDepth 100000
set_option maxHeartbeats 4000000
namespace Go.Proofs.YtmfapopclbnlpaaGreatDoor
open Go Go.Proofs Go.RowKit Go.Vc
section
def yE:cq:=bR [(75,jW),(76,oa),(91,lD),(92,ij),(77,gX),(78,da)]
def yF(sc us pw:Bs)(hk:Int)(hs:Bs)(hn:Int)(hp:List Int)(port:Int)(pn:Bool)(pl:List Bs)(hq:Bool)(q:Bs)(hf:Bool)(fg:Bs)(bare sp:Bool)(rst:Bs)(bsc bus bpw:Bs)(bhk:Int)(bhs:Bs)(bhn:Int)(bhp:List Int)(bport:Int)(bopq bpn:Bool)(bpl:List Bs)(bhq:Bool)(bq:Bs)(bhf:Bool)(bfg:Bs):ba:=fun i=>none
theorem yG:cS Tryz.prog aA yE:=ai qW (ai vS (ai sq (ai n4 (ai j6 (ai cK (ax))))))
theorem En(sc us pw:Bs)(hk:Int)(hs:Bs)(hn:Int)(hp:List Int)(port:Int)(pn:Bool)(pl:List Bs)(hq:Bool)(q:Bs)(hf:Bool)(fg:Bs)(bare sp:Bool)(rst:Bs)(bsc bus bpw:Bs)(bhk:Int)(bhs:Bs)(bhn:Int)(bhp:List Int)(bport:Int)(bopq bpn:Bool)(bpl:List Bs)(bhq:Bool)(bq:Bs)(bhf:Bool)(bfg:Bs)(k:PV→List PV→Prop):bQ Tryz.prog yE aA (yF sc us pw hk hs hn hp port pn pl hq q hf fg bare sp rst bsc bus bpw bhk bhs bhn bhp bport bopq bpn bpl bhq bq bhf bfg) 1000 Tryz.f47 [.ptr 0 0] [aE 1 (.ptr 1 0) sc us pw hk hs hn hp port false pn pl hq q hf fg bare sp rst,bG 0 bsc bus bpw bhk bhs bhn bhp bport bopq bpn bpl bhq bq bhf bfg] k=(
 (List.length rst≤(300000:Nat)∧
 (ab rst rst (0:Nat)).2.2=false∧
 bopq=false)∧
 ((!decide ((0:Int)=(0:Int)))=true→
 k (PV.int .i64 (0:Int)) [bV (PV.ptr (1:Nat) (0:Nat)) 1 bsc us pw hk hs hn hp port false pn pl hq q hf fg true (ay bsc) rst,bG (0:Nat) bsc bus bpw bhk bhs bhn bhp bport bopq bpn bpl bhq bq bhf bfg])∧
 ((!decide ((0:Int)=(0:Int)))=false→
 (false=true→
 (List.length rst).le (300000:Nat)∧
 (List.length (bL rst)).le (300000:Nat)∧
 k (PV.int .i64 (0:Int)) [bV (PV.ptr (1:Nat) (0:Nat)) 1 bsc us pw hk hs hn hp port false pn pl (ee rst hq) (eh (ay bsc) rst q) (ei (bL rst) hf) (ej (bL rst) fg) true (ay bsc) (en (bL rst)),bG (0:Nat) bsc bus bpw bhk bhs bhn bhp bport bopq bpn bpl bhq bq bhf bfg])∧
 (false=false→
 (decide (bsc=(ByteArray.mk #[102,105,108,101]).data.toList)=true→
 (List.length rst≤(300000:Nat)∧
 bpl.length≤(100000:Nat)∧
 az (ay bsc) rst (0:Int)=false∧
 bT rst=false∧
 bC rst=false∧
 bsc=bsc)∧
 ((!decide ((0:Int)=(0:Int)))=true→
 k (PV.int .i64 (0:Int)) [bV (PV.ptr (1:Nat) (0:Nat)) 1 bsc us pw (((RS.mk bsc us pw hk hs hn hp port false pn pl hq q hf fg true (ay bsc) rst).cc (RS.mk bsc bus bpw bhk bhs bhn bhp bport bopq bpn bpl bhq bq bhf bfg false false [])).hk) (((RS.mk bsc us pw hk hs hn hp port false pn pl hq q hf fg true (ay bsc) rst).cc (RS.mk bsc bus bpw bhk bhs bhn bhp bport bopq bpn bpl bhq bq bhf bfg false false [])).hs) (((RS.mk bsc us pw hk hs hn hp port false pn pl hq q hf fg true (ay bsc) rst).cc (RS.mk bsc bus bpw bhk bhs bhn bhp bport bopq bpn bpl bhq bq bhf bfg false false [])).hn) (((RS.mk bsc us pw hk hs hn hp port false pn pl hq q hf fg true (ay bsc) rst).cc (RS.mk bsc bus bpw bhk bhs bhn bhp bport bopq bpn bpl bhq bq bhf bfg false false [])).hp) port false (((RS.mk bsc us pw hk hs hn hp port false pn pl hq q hf fg true (ay bsc) rst).cc (RS.mk bsc bus bpw bhk bhs bhn bhp bport bopq bpn bpl bhq bq bhf bfg false false [])).pn) (((RS.mk bsc us pw hk hs hn hp port false pn pl hq q hf fg true (ay bsc) rst).cc (RS.mk bsc bus bpw bhk bhs bhn bhp bport bopq bpn bpl bhq bq bhf bfg false false [])).pl) hq q hf fg true (ay bsc) (((RS.mk bsc us pw hk hs hn hp port false pn pl hq q hf fg true (ay bsc) rst).cc (RS.mk bsc bus bpw bhk bhs bhn bhp bport bopq bpn bpl bhq bq bhf bfg false false [])).rst),bG (0:Nat) bsc bus bpw bhk bhs bhn bhp bport bopq bpn bpl bhq bq bhf bfg])∧
 ((!decide ((0:Int)=(0:Int)))=false→
 (List.length ((RS.mk bsc us pw hk hs hn hp port false pn pl hq q hf fg true (ay bsc) rst).cc (RS.mk bsc bus bpw bhk bhs bhn bhp bport bopq bpn bpl bhq bq bhf bfg false false [])).rst).le (300000:Nat)∧
 (List.length (bL ((RS.mk bsc us pw hk hs hn hp port false pn pl hq q hf fg true (ay bsc) rst).cc (RS.mk bsc bus bpw bhk bhs bhn bhp bport bopq bpn bpl bhq bq bhf bfg false false [])).rst)).le (300000:Nat)∧
 k (PV.int .i64 (0:Int)) [bV (PV.ptr (1:Nat) (0:Nat)) 1 bsc us pw (((RS.mk bsc us pw hk hs hn hp port false pn pl hq q hf fg true (ay bsc) rst).cc (RS.mk bsc bus bpw bhk bhs bhn bhp bport bopq bpn bpl bhq bq bhf bfg false false [])).hk) (((RS.mk bsc us pw hk hs hn hp port false pn pl hq q hf fg true (ay bsc) rst).cc (RS.mk bsc bus bpw bhk bhs bhn bhp bport bopq bpn bpl bhq bq bhf bfg false false [])).hs) (((RS.mk bsc us pw hk hs hn hp port false pn pl hq q hf fg true (ay bsc) rst).cc (RS.mk bsc bus bpw bhk bhs bhn bhp bport bopq bpn bpl bhq bq bhf bfg false false [])).hn) (((RS.mk bsc us pw hk hs hn hp port false pn pl hq q hf fg true (ay bsc) rst).cc (RS.mk bsc bus bpw bhk bhs bhn bhp bport bopq bpn bpl bhq bq bhf bfg false false [])).hp) port false (((RS.mk bsc us pw hk hs hn hp port false pn pl hq q hf fg true (ay bsc) rst).cc (RS.mk bsc bus bpw bhk bhs bhn bhp bport bopq bpn bpl bhq bq bhf bfg false false [])).pn) (((RS.mk bsc us pw hk hs hn hp port false pn pl hq q hf fg true (ay bsc) rst).cc (RS.mk bsc bus bpw bhk bhs bhn bhp bport bopq bpn bpl bhq bq bhf bfg false false [])).pl) (ee ((RS.mk bsc us pw hk hs hn hp port false pn pl hq q hf fg true (ay bsc) rst).cc (RS.mk bsc bus bpw bhk bhs bhn bhp bport bopq bpn bpl bhq bq bhf bfg false false [])).rst hq) (eh (ay bsc) ((RS.mk bsc us pw hk hs hn hp port false pn pl hq q hf fg true (ay bsc) rst).cc (RS.mk bsc bus bpw bhk bhs bhn bhp bport bopq bpn bpl bhq bq bhf bfg false false [])).rst q) (ei (bL ((RS.mk bsc us pw hk hs hn hp port false pn pl hq q hf fg true (ay bsc) rst).cc (RS.mk bsc bus bpw bhk bhs bhn bhp bport bopq bpn bpl bhq bq bhf bfg false false [])).rst) hf) (ej (bL ((RS.mk bsc us pw hk hs hn hp port false pn pl hq q hf fg true (ay bsc) rst).cc (RS.mk bsc bus bpw bhk bhs bhn bhp bport bopq bpn bpl bhq bq bhf bfg false false [])).rst) fg) true (ay bsc) (en (bL ((RS.mk bsc us pw hk hs hn hp port false pn pl hq q hf fg true (ay bsc) rst).cc (RS.mk bsc bus bpw bhk bhs bhn bhp bport bopq bpn bpl bhq bq bhf bfg false false [])).rst)),bG (0:Nat) bsc bus bpw bhk bhs bhn bhp bport bopq bpn bpl bhq bq bhf bfg]))∧
 (decide (bsc=(ByteArray.mk #[102,105,108,101]).data.toList)=false→
 (true=false→
 (ay bsc=true→
 bsc=bsc∧
 (false=false→
 true=true→
 True)∧
 ((!preB rst (ByteArray.mk #[47,47]).data.toList)=true→
 False)∧
 ((!preB rst (ByteArray.mk #[47,47]).data.toList)=false→
 (ay bsc=true→
 False)∧
 (ay bsc=false→
 False)))∧
 (ay bsc=!true→
 (false=false→
 false=true→
 True)∧
 (false=true→
 False)∧
 (false=false→
 (ay bsc=true→
 False)∧
 (ay bsc=false→
 False))))∧
 (true=!false→
 ((!false)=false→
 false=true→
 True)∧
 (true=true→
 False)∧
 (true=false→
 (ay bsc=true→
 False)∧
 (ay bsc=false→
 False))))))):=by kernel_rfl
attribute [local irreducible] Go.Vc.cD Go.Vc.bQ
theorem yH(sc us pw:Bs)(hk:Int)(hs:Bs)(hn:Int)(hp:List Int)(port:Int)(pn:Bool)(pl:List Bs)(hq:Bool)(q:Bs)(hf:Bool)(fg:Bs)(bare sp:Bool)(rst:Bs)(bsc bus bpw:Bs)(bhk:Int)(bhs:Bs)(bhn:Int)(bhp:List Int)(bport:Int)(bopq bpn:Bool)(bpl:List Bs)(bhq:Bool)(bq:Bs)(bhf:Bool)(bfg:Bs):br Tryz.prog aA 47 [.ptr 0 0] [aE 1 (.ptr 1 0) sc us pw hk hs hn hp port false pn pl hq q hf fg bare sp rst,bG 0 bsc bus bpw bhk bhs bhn bhp bport bopq bpn bpl bhq bq bhf bfg] (rst.length≤300000∧bpl.length≤100000∧(ab rst rst 0).2.2=false∧bopq=false∧bsc=fL∧az (ay bsc) rst 0=false∧bT rst=false∧bC rst=false) (.int .i64 0) [aE 0 (.ptr 1 0) (((RS.mk sc us pw hk hs hn hp port false pn pl hq q hf fg bare sp rst).aw (RS.mk bsc bus bpw bhk bhs bhn bhp bport bopq bpn bpl bhq bq bhf bfg false false [])).sc) (((RS.mk sc us pw hk hs hn hp port false pn pl hq q hf fg bare sp rst).aw (RS.mk bsc bus bpw bhk bhs bhn bhp bport bopq bpn bpl bhq bq bhf bfg false false [])).us) (((RS.mk sc us pw hk hs hn hp port false pn pl hq q hf fg bare sp rst).aw (RS.mk bsc bus bpw bhk bhs bhn bhp bport bopq bpn bpl bhq bq bhf bfg false false [])).pw) (((RS.mk sc us pw hk hs hn hp port false pn pl hq q hf fg bare sp rst).aw (RS.mk bsc bus bpw bhk bhs bhn bhp bport bopq bpn bpl bhq bq bhf bfg false false [])).hk) (((RS.mk sc us pw hk hs hn hp port false pn pl hq q hf fg bare sp rst).aw (RS.mk bsc bus bpw bhk bhs bhn bhp bport bopq bpn bpl bhq bq bhf bfg false false [])).hs) (((RS.mk sc us pw hk hs hn hp port false pn pl hq q hf fg bare sp rst).aw (RS.mk bsc bus bpw bhk bhs bhn bhp bport bopq bpn bpl bhq bq bhf bfg false false [])).hn) (((RS.mk sc us pw hk hs hn hp port false pn pl hq q hf fg bare sp rst).aw (RS.mk bsc bus bpw bhk bhs bhn bhp bport bopq bpn bpl bhq bq bhf bfg false false [])).hp) (((RS.mk sc us pw hk hs hn hp port false pn pl hq q hf fg bare sp rst).aw (RS.mk bsc bus bpw bhk bhs bhn bhp bport bopq bpn bpl bhq bq bhf bfg false false [])).port) (((RS.mk sc us pw hk hs hn hp port false pn pl hq q hf fg bare sp rst).aw (RS.mk bsc bus bpw bhk bhs bhn bhp bport bopq bpn bpl bhq bq bhf bfg false false [])).opq) (((RS.mk sc us pw hk hs hn hp port false pn pl hq q hf fg bare sp rst).aw (RS.mk bsc bus bpw bhk bhs bhn bhp bport bopq bpn bpl bhq bq bhf bfg false false [])).pn) (((RS.mk sc us pw hk hs hn hp port false pn pl hq q hf fg bare sp rst).aw (RS.mk bsc bus bpw bhk bhs bhn bhp bport bopq bpn bpl bhq bq bhf bfg false false [])).pl) (((RS.mk sc us pw hk hs hn hp port false pn pl hq q hf fg bare sp rst).aw (RS.mk bsc bus bpw bhk bhs bhn bhp bport bopq bpn bpl bhq bq bhf bfg false false [])).hq) (((RS.mk sc us pw hk hs hn hp port false pn pl hq q hf fg bare sp rst).aw (RS.mk bsc bus bpw bhk bhs bhn bhp bport bopq bpn bpl bhq bq bhf bfg false false [])).q) (((RS.mk sc us pw hk hs hn hp port false pn pl hq q hf fg bare sp rst).aw (RS.mk bsc bus bpw bhk bhs bhn bhp bport bopq bpn bpl bhq bq bhf bfg false false [])).hf) (((RS.mk sc us pw hk hs hn hp port false pn pl hq q hf fg bare sp rst).aw (RS.mk bsc bus bpw bhk bhs bhn bhp bport bopq bpn bpl bhq bq bhf bfg false false [])).fg) (((RS.mk sc us pw hk hs hn hp port false pn pl hq q hf fg bare sp rst).aw (RS.mk bsc bus bpw bhk bhs bhn bhp bport bopq bpn bpl bhq bq bhf bfg false false [])).bare) (((RS.mk sc us pw hk hs hn hp port false pn pl hq q hf fg bare sp rst).aw (RS.mk bsc bus bpw bhk bhs bhn bhp bport bopq bpn bpl bhq bq bhf bfg false false [])).sp) (((RS.mk sc us pw hk hs hn hp port false pn pl hq q hf fg bare sp rst).aw (RS.mk bsc bus bpw bhk bhs bhn bhp bport bopq bpn bpl bhq bq bhf bfg false false [])).rst),bG 0 bsc bus bpw bhk bhs bhn bhp bport bopq bpn bpl bhq bq bhf bfg]:=uM (by kernel_rfl) yG (H:=yF sc us pw hk hs hn hp port pn pl hq q hf fg bare sp rst bsc bus bpw bhk bhs bhn bhp bport bopq bpn bpl bhq bq bhf bfg) (fuel:=1000) Tryz.func47 (by kernel_rfl) (Nat.le_of_ble_eq_true rfl) fun hpre=>(En sc us pw hk hs hn hp port pn pl hq q hf fg bare sp rst bsc bus bpw bhk bhs bhn bhp bport bopq bpn bpl bhq bq bhf bfg _).mpr (by
 obtain ⟨h1,h2,h3,h4,h5,h6,h7,h8⟩:=hpre
 have hb:decide (bsc=(ByteArray.mk #[102,105,108,101]).data.toList)=true:=decide_eq_true h5
 have hr:((RS.mk bsc us pw hk hs hn hp port false pn pl hq q hf fg true (ay bsc) rst).cc (RS.mk bsc bus bpw bhk bhs bhn bhp bport bopq bpn bpl bhq bq bhf bfg false false [])).rst.length≤300000:=by
  show(aa rst _).length≤_
  unfold aa
  rw [List.length_drop];omega
 have e:(RS.mk sc us pw hk hs hn hp port false pn pl hq q hf fg bare sp rst).aw (RS.mk bsc bus bpw bhk bhs bhn bhp bport bopq bpn bpl bhq bq bhf bfg false false [])=_:=jo _
 rw [e]
 exact ⟨⟨h1,h3,h4⟩,(fun h=>absurd h (by decide)),fun _=>⟨(fun h=>nomatch h),fun _=>⟨fun _=>⟨⟨h1,h2,h6,h7,h8,rfl⟩,(fun h=>absurd h (by decide)),fun _=>⟨hr,Nat.le_trans (iQ _) hr,rfl,rfl⟩⟩,fun h=>absurd (h.symm.trans hb) nofun⟩⟩⟩)
end
section
attribute [local instance] K7
theorem vY(sc us pw:Bs)(hk:Int)(hs:Bs)(hn:Int)(hp:List Int)(port:Int)(hq:Bool)(q:Bs)(hf:Bool)(fg:Bs)(bare sp:Bool)(rst:Bs)(bsc bus bpw:Bs)(bhk:Int)(bhs:Bs)(bhn:Int)(bhp:List Int)(bport:Int)(bopq bpn:Bool)(bpl:List Bs)(bhq:Bool)(bq:Bs)(bhf:Bool)(bfg:Bs):br Tryz.prog aA 47 [.ptr 0 0] [aE 0 (.ptr 1 0) sc us pw hk hs hn hp port false true [] hq q hf fg bare sp rst,bG 0 bsc bus bpw bhk bhs bhn bhp bport bopq bpn bpl bhq bq bhf bfg] (rst.length≤300000∧bpl.length≤100000∧(ab rst rst 0).2.2=false∧bopq=false∧bsc=fL∧az (ay bsc) rst 0=false∧bT rst=false∧bC rst=false) (.int .i64 0) [aE 0 (.ptr 1 0) (((RS.mk sc us pw hk hs hn hp port false true ([]:List Bs) hq q hf fg bare sp rst).aw (RS.mk bsc bus bpw bhk bhs bhn bhp bport bopq bpn bpl bhq bq bhf bfg false false [])).sc) (((RS.mk sc us pw hk hs hn hp port false true ([]:List Bs) hq q hf fg bare sp rst).aw (RS.mk bsc bus bpw bhk bhs bhn bhp bport bopq bpn bpl bhq bq bhf bfg false false [])).us) (((RS.mk sc us pw hk hs hn hp port false true ([]:List Bs) hq q hf fg bare sp rst).aw (RS.mk bsc bus bpw bhk bhs bhn bhp bport bopq bpn bpl bhq bq bhf bfg false false [])).pw) (((RS.mk sc us pw hk hs hn hp port false true ([]:List Bs) hq q hf fg bare sp rst).aw (RS.mk bsc bus bpw bhk bhs bhn bhp bport bopq bpn bpl bhq bq bhf bfg false false [])).hk) (((RS.mk sc us pw hk hs hn hp port false true ([]:List Bs) hq q hf fg bare sp rst).aw (RS.mk bsc bus bpw bhk bhs bhn bhp bport bopq bpn bpl bhq bq bhf bfg false false [])).hs) (((RS.mk sc us pw hk hs hn hp port false true ([]:List Bs) hq q hf fg bare sp rst).aw (RS.mk bsc bus bpw bhk bhs bhn bhp bport bopq bpn bpl bhq bq bhf bfg false false [])).hn) (((RS.mk sc us pw hk hs hn hp port false true ([]:List Bs) hq q hf fg bare sp rst).aw (RS.mk bsc bus bpw bhk bhs bhn bhp bport bopq bpn bpl bhq bq bhf bfg false false [])).hp) (((RS.mk sc us pw hk hs hn hp port false true ([]:List Bs) hq q hf fg bare sp rst).aw (RS.mk bsc bus bpw bhk bhs bhn bhp bport bopq bpn bpl bhq bq bhf bfg false false [])).port) (((RS.mk sc us pw hk hs hn hp port false true ([]:List Bs) hq q hf fg bare sp rst).aw (RS.mk bsc bus bpw bhk bhs bhn bhp bport bopq bpn bpl bhq bq bhf bfg false false [])).opq) (((RS.mk sc us pw hk hs hn hp port false true ([]:List Bs) hq q hf fg bare sp rst).aw (RS.mk bsc bus bpw bhk bhs bhn bhp bport bopq bpn bpl bhq bq bhf bfg false false [])).pn) (((RS.mk sc us pw hk hs hn hp port false true ([]:List Bs) hq q hf fg bare sp rst).aw (RS.mk bsc bus bpw bhk bhs bhn bhp bport bopq bpn bpl bhq bq bhf bfg false false [])).pl) (((RS.mk sc us pw hk hs hn hp port false true ([]:List Bs) hq q hf fg bare sp rst).aw (RS.mk bsc bus bpw bhk bhs bhn bhp bport bopq bpn bpl bhq bq bhf bfg false false [])).hq) (((RS.mk sc us pw hk hs hn hp port false true ([]:List Bs) hq q hf fg bare sp rst).aw (RS.mk bsc bus bpw bhk bhs bhn bhp bport bopq bpn bpl bhq bq bhf bfg false false [])).q) (((RS.mk sc us pw hk hs hn hp port false true ([]:List Bs) hq q hf fg bare sp rst).aw (RS.mk bsc bus bpw bhk bhs bhn bhp bport bopq bpn bpl bhq bq bhf bfg false false [])).hf) (((RS.mk sc us pw hk hs hn hp port false true ([]:List Bs) hq q hf fg bare sp rst).aw (RS.mk bsc bus bpw bhk bhs bhn bhp bport bopq bpn bpl bhq bq bhf bfg false false [])).fg) (((RS.mk sc us pw hk hs hn hp port false true ([]:List Bs) hq q hf fg bare sp rst).aw (RS.mk bsc bus bpw bhk bhs bhn bhp bport bopq bpn bpl bhq bq bhf bfg false false [])).bare) (((RS.mk sc us pw hk hs hn hp port false true ([]:List Bs) hq q hf fg bare sp rst).aw (RS.mk bsc bus bpw bhk bhs bhn bhp bport bopq bpn bpl bhq bq bhf bfg false false [])).sp) (((RS.mk sc us pw hk hs hn hp port false true ([]:List Bs) hq q hf fg bare sp rst).aw (RS.mk bsc bus bpw bhk bhs bhn bhp bport bopq bpn bpl bhq bq bhf bfg false false [])).rst),bG 0 bsc bus bpw bhk bhs bhn bhp bport bopq bpn bpl bhq bq bhf bfg]:=fun hpre F w vs bs τ hF hT hw hb hτ hl hx=>
 yH sc us pw hk hs hn hp port true [] hq q hf fg bare sp rst bsc bus bpw bhk bhs bhn bhp bport bopq bpn bpl bhq bq bhf bfg hpre F w vs bs τ hF hT hw hb hτ ⟨hl.len,hl.nd,hl.bF,hl.mks,hl.inj,fun i x hx=>by
  match i,hx with
  |0,hx=>
   injection hx with hx
   subst hx
   obtain ⟨b,h1,u,e,fz,g1,g2,g3,g4,g5⟩:=hl.box 0 _ rfl
   exact ⟨b,h1,u,e,fz,g1,g2,aQ.map (f:=Ed) (fun y v _ hy=>yr hy) (fun y _=>yu y) g3,g4,g5⟩
  |1,hx=>exact hl.box 1 x hx
  |i+2,hx=>cases hx⟩ hx
theorem AY(sc us pw:Bs)(hk:Int)(hs:Bs)(hn:Int)(hp:List Int)(port:Int)(hq:Bool)(q:Bs)(hf:Bool)(fg:Bs)(bare sp:Bool)(rst:Bs)(bsc bus bpw:Bs)(bhk:Int)(bhs:Bs)(bhn:Int)(bhp:List Int)(bport:Int)(bopq bpn:Bool)(bpl:List Bs)(bhq:Bool)(bq:Bs)(bhf:Bool)(bfg:Bs):ag Tryz.prog aA 47 [.ptr 0 0,aE 0 (.ptr 1 0) sc us pw hk hs hn hp port false true [] hq q hf fg bare sp rst,bG 0 bsc bus bpw bhk bhs bhn bhp bport bopq bpn bpl bhq bq bhf bfg] ⟨rst.length≤300000∧bpl.length≤100000∧(ab rst rst 0).2.2=false∧bopq=false∧bsc=fL∧az (ay bsc) rst 0=false∧bT rst=false∧bC rst=false,.tup [.int .i64 0,aE 0 (.ptr 1 0) (((RS.mk sc us pw hk hs hn hp port false true ([]:List Bs) hq q hf fg bare sp rst).aw (RS.mk bsc bus bpw bhk bhs bhn bhp bport bopq bpn bpl bhq bq bhf bfg false false [])).sc) (((RS.mk sc us pw hk hs hn hp port false true ([]:List Bs) hq q hf fg bare sp rst).aw (RS.mk bsc bus bpw bhk bhs bhn bhp bport bopq bpn bpl bhq bq bhf bfg false false [])).us) (((RS.mk sc us pw hk hs hn hp port false true ([]:List Bs) hq q hf fg bare sp rst).aw (RS.mk bsc bus bpw bhk bhs bhn bhp bport bopq bpn bpl bhq bq bhf bfg false false [])).pw) (((RS.mk sc us pw hk hs hn hp port false true ([]:List Bs) hq q hf fg bare sp rst).aw (RS.mk bsc bus bpw bhk bhs bhn bhp bport bopq bpn bpl bhq bq bhf bfg false false [])).hk) (((RS.mk sc us pw hk hs hn hp port false true ([]:List Bs) hq q hf fg bare sp rst).aw (RS.mk bsc bus bpw bhk bhs bhn bhp bport bopq bpn bpl bhq bq bhf bfg false false [])).hs) (((RS.mk sc us pw hk hs hn hp port false true ([]:List Bs) hq q hf fg bare sp rst).aw (RS.mk bsc bus bpw bhk bhs bhn bhp bport bopq bpn bpl bhq bq bhf bfg false false [])).hn) (((RS.mk sc us pw hk hs hn hp port false true ([]:List Bs) hq q hf fg bare sp rst).aw (RS.mk bsc bus bpw bhk bhs bhn bhp bport bopq bpn bpl bhq bq bhf bfg false false [])).hp) (((RS.mk sc us pw hk hs hn hp port false true ([]:List Bs) hq q hf fg bare sp rst).aw (RS.mk bsc bus bpw bhk bhs bhn bhp bport bopq bpn bpl bhq bq bhf bfg false false [])).port) (((RS.mk sc us pw hk hs hn hp port false true ([]:List Bs) hq q hf fg bare sp rst).aw (RS.mk bsc bus bpw bhk bhs bhn bhp bport bopq bpn bpl bhq bq bhf bfg false false [])).opq) (((RS.mk sc us pw hk hs hn hp port false true ([]:List Bs) hq q hf fg bare sp rst).aw (RS.mk bsc bus bpw bhk bhs bhn bhp bport bopq bpn bpl bhq bq bhf bfg false false [])).pn) (((RS.mk sc us pw hk hs hn hp port false true ([]:List Bs) hq q hf fg bare sp rst).aw (RS.mk bsc bus bpw bhk bhs bhn bhp bport bopq bpn bpl bhq bq bhf bfg false false [])).pl) (((RS.mk sc us pw hk hs hn hp port false true ([]:List Bs) hq q hf fg bare sp rst).aw (RS.mk bsc bus bpw bhk bhs bhn bhp bport bopq bpn bpl bhq bq bhf bfg false false [])).hq) (((RS.mk sc us pw hk hs hn hp port false true ([]:List Bs) hq q hf fg bare sp rst).aw (RS.mk bsc bus bpw bhk bhs bhn bhp bport bopq bpn bpl bhq bq bhf bfg false false [])).q) (((RS.mk sc us pw hk hs hn hp port false true ([]:List Bs) hq q hf fg bare sp rst).aw (RS.mk bsc bus bpw bhk bhs bhn bhp bport bopq bpn bpl bhq bq bhf bfg false false [])).hf) (((RS.mk sc us pw hk hs hn hp port false true ([]:List Bs) hq q hf fg bare sp rst).aw (RS.mk bsc bus bpw bhk bhs bhn bhp bport bopq bpn bpl bhq bq bhf bfg false false [])).fg) (((RS.mk sc us pw hk hs hn hp port false true ([]:List Bs) hq q hf fg bare sp rst).aw (RS.mk bsc bus bpw bhk bhs bhn bhp bport bopq bpn bpl bhq bq bhf bfg false false [])).bare) (((RS.mk sc us pw hk hs hn hp port false true ([]:List Bs) hq q hf fg bare sp rst).aw (RS.mk bsc bus bpw bhk bhs bhn bhp bport bopq bpn bpl bhq bq bhf bfg false false [])).sp) (((RS.mk sc us pw hk hs hn hp port false true ([]:List Bs) hq q hf fg bare sp rst).aw (RS.mk bsc bus bpw bhk bhs bhn bhp bport bopq bpn bpl bhq bq bhf bfg false false [])).rst),bG 0 bsc bus bpw bhk bhs bhn bhp bport bopq bpn bpl bhq bq bhf bfg]⟩:=ag.bd (fun h=>by have e:List.isEmpty (PV.aB PV.bD [.ptr 0 0,aE 0 (.ptr 1 0) sc us pw hk hs hn hp port false true [] hq q hf fg bare sp rst,bG 0 bsc bus bpw bhk bhs bhn bhp bport bopq bpn bpl bhq bq bhf bfg])=false:=(by kernel_rfl);exact Bool.noConfusion (e.symm.trans (congrArg List.isEmpty h))) (vY sc us pw hk hs hn hp port hq q hf fg bare sp rst bsc bus bpw bhk bhs bhn bhp bport bopq bpn bpl bhq bq bhf bfg)
def ka:List PV→Option aI:=fun xs=>match xs with
 |[.ptr 0 0,aE 0 (.ptr 1 0) sc us pw hk hs hn hp port false true [] hq q hf fg bare sp rst,bG 0 bsc bus bpw bhk bhs bhn bhp bport bopq bpn bpl bhq bq bhf bfg]=>some ⟨rst.length≤300000∧bpl.length≤100000∧(ab rst rst 0).2.2=false∧bopq=false∧bsc=fL∧az (ay bsc) rst 0=false∧bT rst=false∧bC rst=false,.tup [.int .i64 0,aE 0 (.ptr 1 0) (((RS.mk sc us pw hk hs hn hp port false true ([]:List Bs) hq q hf fg bare sp rst).aw (RS.mk bsc bus bpw bhk bhs bhn bhp bport bopq bpn bpl bhq bq bhf bfg false false [])).sc) (((RS.mk sc us pw hk hs hn hp port false true ([]:List Bs) hq q hf fg bare sp rst).aw (RS.mk bsc bus bpw bhk bhs bhn bhp bport bopq bpn bpl bhq bq bhf bfg false false [])).us) (((RS.mk sc us pw hk hs hn hp port false true ([]:List Bs) hq q hf fg bare sp rst).aw (RS.mk bsc bus bpw bhk bhs bhn bhp bport bopq bpn bpl bhq bq bhf bfg false false [])).pw) (((RS.mk sc us pw hk hs hn hp port false true ([]:List Bs) hq q hf fg bare sp rst).aw (RS.mk bsc bus bpw bhk bhs bhn bhp bport bopq bpn bpl bhq bq bhf bfg false false [])).hk) (((RS.mk sc us pw hk hs hn hp port false true ([]:List Bs) hq q hf fg bare sp rst).aw (RS.mk bsc bus bpw bhk bhs bhn bhp bport bopq bpn bpl bhq bq bhf bfg false false [])).hs) (((RS.mk sc us pw hk hs hn hp port false true ([]:List Bs) hq q hf fg bare sp rst).aw (RS.mk bsc bus bpw bhk bhs bhn bhp bport bopq bpn bpl bhq bq bhf bfg false false [])).hn) (((RS.mk sc us pw hk hs hn hp port false true ([]:List Bs) hq q hf fg bare sp rst).aw (RS.mk bsc bus bpw bhk bhs bhn bhp bport bopq bpn bpl bhq bq bhf bfg false false [])).hp) (((RS.mk sc us pw hk hs hn hp port false true ([]:List Bs) hq q hf fg bare sp rst).aw (RS.mk bsc bus bpw bhk bhs bhn bhp bport bopq bpn bpl bhq bq bhf bfg false false [])).port) (((RS.mk sc us pw hk hs hn hp port false true ([]:List Bs) hq q hf fg bare sp rst).aw (RS.mk bsc bus bpw bhk bhs bhn bhp bport bopq bpn bpl bhq bq bhf bfg false false [])).opq) (((RS.mk sc us pw hk hs hn hp port false true ([]:List Bs) hq q hf fg bare sp rst).aw (RS.mk bsc bus bpw bhk bhs bhn bhp bport bopq bpn bpl bhq bq bhf bfg false false [])).pn) (((RS.mk sc us pw hk hs hn hp port false true ([]:List Bs) hq q hf fg bare sp rst).aw (RS.mk bsc bus bpw bhk bhs bhn bhp bport bopq bpn bpl bhq bq bhf bfg false false [])).pl) (((RS.mk sc us pw hk hs hn hp port false true ([]:List Bs) hq q hf fg bare sp rst).aw (RS.mk bsc bus bpw bhk bhs bhn bhp bport bopq bpn bpl bhq bq bhf bfg false false [])).hq) (((RS.mk sc us pw hk hs hn hp port false true ([]:List Bs) hq q hf fg bare sp rst).aw (RS.mk bsc bus bpw bhk bhs bhn bhp bport bopq bpn bpl bhq bq bhf bfg false false [])).q) (((RS.mk sc us pw hk hs hn hp port false true ([]:List Bs) hq q hf fg bare sp rst).aw (RS.mk bsc bus bpw bhk bhs bhn bhp bport bopq bpn bpl bhq bq bhf bfg false false [])).hf) (((RS.mk sc us pw hk hs hn hp port false true ([]:List Bs) hq q hf fg bare sp rst).aw (RS.mk bsc bus bpw bhk bhs bhn bhp bport bopq bpn bpl bhq bq bhf bfg false false [])).fg) (((RS.mk sc us pw hk hs hn hp port false true ([]:List Bs) hq q hf fg bare sp rst).aw (RS.mk bsc bus bpw bhk bhs bhn bhp bport bopq bpn bpl bhq bq bhf bfg false false [])).bare) (((RS.mk sc us pw hk hs hn hp port false true ([]:List Bs) hq q hf fg bare sp rst).aw (RS.mk bsc bus bpw bhk bhs bhn bhp bport bopq bpn bpl bhq bq bhf bfg false false [])).sp) (((RS.mk sc us pw hk hs hn hp port false true ([]:List Bs) hq q hf fg bare sp rst).aw (RS.mk bsc bus bpw bhk bhs bhn bhp bport bopq bpn bpl bhq bq bhf bfg false false [])).rst),bG 0 bsc bus bpw bhk bhs bhn bhp bport bopq bpn bpl bhq bq bhf bfg]⟩
 |_=>none
theorem rO:∀xs c,ka xs=some c→ag Tryz.prog aA 47 xs c:=fun xs c h=>by
 unfold ka at h
 split at h
 ·injection h with h;subst h;exact AY _ _ _ _ _ _ _ _ _ _ _ _ _ _ _ _ _ _ _ _ _ _ _ _ _ _ _ _ _ _
 ·cases h
end
section
def yI:cq:=bR [(46,ks),(47,ka)]
def yJ(l:Bs)(bsc bus bpw:Bs)(bhk:Int)(bhs:Bs)(bhn:Int)(bhp:List Int)(bport:Int)(bopq bpn:Bool)(bpl:List Bs)(bhq:Bool)(bq:Bs)(bhf:Bool)(bfg:Bs):ba:=fun i=>none
theorem yK:cS Tryz.prog aA yI:=ai mE (ai rO (ax))
theorem Eo(l:Bs)(bsc bus bpw:Bs)(bhk:Int)(bhs:Bs)(bhn:Int)(bhp:List Int)(bport:Int)(bopq bpn:Bool)(bpl:List Bs)(bhq:Bool)(bq:Bs)(bhf:Bool)(bfg:Bs)(k:PV→List PV→Prop):bQ Tryz.prog yI aA (yJ l bsc bus bpw bhk bhs bhn bhp bport bopq bpn bpl bhq bq bhf bfg) 1000 Tryz.f30 [.str l,.ptr 0 0] [bG 0 bsc bus bpw bhk bhs bhn bhp bport bopq bpn bpl bhq bq bhf bfg] k=(
 (decide ((1048576:Int)<al l)=true→
 k
 (PV.tup
 [bG (0:Nat) [] [] [] (0:Int) [] (0:Int) (List.replicate (8:Nat) (0:Int)) (0:Int) false true [] false [] false [],
 PV.int .i64 (6:Int)])
 [bG (0:Nat) bsc bus bpw bhk bhs bhn bhp bport bopq bpn bpl bhq bq bhf bfg])∧
 (decide ((1048576:Int)<al l)=false→
 (List.length l).le (60000:Nat)∧
 (List.length (an l)≤(300000:Nat)∧
 bpl.length≤(100000:Nat)∧
 (ab (an l) (an l)
 (0:Nat)).2.2=
 false∧
 bopq=false∧
 bsc=fL∧
 az (ay bsc) (an l)
 (0:Int)=
 false∧
 bT (an l)=false∧
 bC (an l)=false)∧
 ((!decide ((0:Int)=(0:Int)))=true→
 k
 (PV.tup
 [bG (0:Nat) [] [] [] (0:Int) [] (0:Int) (List.replicate (8:Nat) (0:Int)) (0:Int) false true [] false [] false [],
 PV.int .i64 (0:Int)])
 [bG (0:Nat) bsc bus bpw bhk bhs bhn bhp bport bopq bpn bpl bhq bq bhf bfg])∧
 ((!decide ((0:Int)=(0:Int)))=false→
 k
 (PV.tup
 [bG (0:Nat) ((RS.mk [] [] [] (0:Int) [] (0:Int) (List.replicate (8:Nat) (0:Int)) (-1:Int) false true
 [] false [] false [] false false (an l)).aw
 (RS.mk bsc bus bpw bhk bhs bhn bhp bport bopq bpn bpl bhq bq bhf bfg false false [])).sc ((RS.mk [] [] [] (0:Int) [] (0:Int) (List.replicate (8:Nat) (0:Int)) (-1:Int) false true
 [] false [] false [] false false (an l)).aw
 (RS.mk bsc bus bpw bhk bhs bhn bhp bport bopq bpn bpl bhq bq bhf bfg false false [])).us ((RS.mk [] [] [] (0:Int) [] (0:Int) (List.replicate (8:Nat) (0:Int)) (-1:Int) false true
 [] false [] false [] false false (an l)).aw
 (RS.mk bsc bus bpw bhk bhs bhn bhp bport bopq bpn bpl bhq bq bhf bfg false false [])).pw ((RS.mk [] [] [] (0:Int) [] (0:Int) (List.replicate (8:Nat) (0:Int)) (-1:Int) false
 true [] false [] false [] false false (an l)).aw
 (RS.mk bsc bus bpw bhk bhs bhn bhp bport bopq bpn bpl bhq bq bhf bfg false false [])).hk ((RS.mk [] [] [] (0:Int) [] (0:Int) (List.replicate (8:Nat) (0:Int)) (-1:Int) false
 true [] false [] false [] false false (an l)).aw
 (RS.mk bsc bus bpw bhk bhs bhn bhp bport bopq bpn bpl bhq bq bhf bfg false false [])).hs ((RS.mk [] [] [] (0:Int) [] (0:Int) (List.replicate (8:Nat) (0:Int)) (-1:Int) false
 true [] false [] false [] false false (an l)).aw
 (RS.mk bsc bus bpw bhk bhs bhn bhp bport bopq bpn bpl bhq bq bhf bfg false false [])).hn ((RS.mk [] [] [] (0:Int) [] (0:Int) (List.replicate (8:Nat) (0:Int)) (-1:Int) false
 true [] false [] false [] false false (an l)).aw
 (RS.mk bsc bus bpw bhk bhs bhn bhp bport bopq bpn bpl bhq bq bhf bfg false false
 [])).hp ((RS.mk [] [] [] (0:Int) [] (0:Int) (List.replicate (8:Nat) (0:Int)) (-1:Int) false true
 [] false [] false [] false false (an l)).aw
 (RS.mk bsc bus bpw bhk bhs bhn bhp bport bopq bpn bpl bhq bq bhf bfg false false [])).port ((RS.mk [] [] [] (0:Int) [] (0:Int) (List.replicate (8:Nat) (0:Int)) (-1:Int) false true
 [] false [] false [] false false (an l)).aw
 (RS.mk bsc bus bpw bhk bhs bhn bhp bport bopq bpn bpl bhq bq bhf bfg false false [])).opq ((RS.mk [] [] [] (0:Int) [] (0:Int) (List.replicate (8:Nat) (0:Int)) (-1:Int) false true
 [] false [] false [] false false (an l)).aw
 (RS.mk bsc bus bpw bhk bhs bhn bhp bport bopq bpn bpl bhq bq bhf bfg false false [])).pn ((RS.mk [] [] [] (0:Int) [] (0:Int) (List.replicate (8:Nat) (0:Int)) (-1:Int) false true
 [] false [] false [] false false (an l)).aw
 (RS.mk bsc bus bpw bhk bhs bhn bhp bport bopq bpn bpl bhq bq bhf bfg false false [])).pl ((RS.mk [] [] [] (0:Int) [] (0:Int) (List.replicate (8:Nat) (0:Int)) (-1:Int) false true
 [] false [] false [] false false (an l)).aw
 (RS.mk bsc bus bpw bhk bhs bhn bhp bport bopq bpn bpl bhq bq bhf bfg false false [])).hq ((RS.mk [] [] [] (0:Int) [] (0:Int) (List.replicate (8:Nat) (0:Int)) (-1:Int) false true
 [] false [] false [] false false (an l)).aw
 (RS.mk bsc bus bpw bhk bhs bhn bhp bport bopq bpn bpl bhq bq bhf bfg false false [])).q ((RS.mk [] [] [] (0:Int) [] (0:Int) (List.replicate (8:Nat) (0:Int)) (-1:Int) false true
 [] false [] false [] false false (an l)).aw
 (RS.mk bsc bus bpw bhk bhs bhn bhp bport bopq bpn bpl bhq bq bhf bfg false false [])).hf ((RS.mk [] [] [] (0:Int) [] (0:Int) (List.replicate (8:Nat) (0:Int)) (-1:Int) false true
 [] false [] false [] false false (an l)).aw
 (RS.mk bsc bus bpw bhk bhs bhn bhp bport bopq bpn bpl bhq bq bhf bfg false false [])).fg,
 PV.int .i64 (0:Int)])
 [bG (0:Nat) bsc bus bpw bhk bhs bhn bhp bport bopq bpn bpl bhq bq bhf bfg]))):=by kernel_rfl
attribute [local irreducible] Go.Vc.cD Go.Vc.bQ
theorem yL(l:Bs)(bsc bus bpw:Bs)(bhk:Int)(bhs:Bs)(bhn:Int)(bhp:List Int)(bport:Int)(bopq bpn:Bool)(bpl:List Bs)(bhq:Bool)(bq:Bs)(bhf:Bool)(bfg:Bs):br Tryz.prog aA 30 [.str l,.ptr 0 0] [bG 0 bsc bus bpw bhk bhs bhn bhp bport bopq bpn bpl bhq bq bhf bfg] (l.length≤60000∧bpl.length≤100000∧(ab (an l) (an l) 0).2.2=false∧bopq=false∧bsc=fL∧az (ay bsc) (an l) 0=false∧bT (an l)=false∧bC (an l)=false) (.tup [bG 0 (((RS.init (an l)).aw (RS.mk bsc bus bpw bhk bhs bhn bhp bport bopq bpn bpl bhq bq bhf bfg false false []))).sc (((RS.init (an l)).aw (RS.mk bsc bus bpw bhk bhs bhn bhp bport bopq bpn bpl bhq bq bhf bfg false false []))).us (((RS.init (an l)).aw (RS.mk bsc bus bpw bhk bhs bhn bhp bport bopq bpn bpl bhq bq bhf bfg false false []))).pw (((RS.init (an l)).aw (RS.mk bsc bus bpw bhk bhs bhn bhp bport bopq bpn bpl bhq bq bhf bfg false false []))).hk (((RS.init (an l)).aw (RS.mk bsc bus bpw bhk bhs bhn bhp bport bopq bpn bpl bhq bq bhf bfg false false []))).hs (((RS.init (an l)).aw (RS.mk bsc bus bpw bhk bhs bhn bhp bport bopq bpn bpl bhq bq bhf bfg false false []))).hn (((RS.init (an l)).aw (RS.mk bsc bus bpw bhk bhs bhn bhp bport bopq bpn bpl bhq bq bhf bfg false false []))).hp (((RS.init (an l)).aw (RS.mk bsc bus bpw bhk bhs bhn bhp bport bopq bpn bpl bhq bq bhf bfg false false []))).port (((RS.init (an l)).aw (RS.mk bsc bus bpw bhk bhs bhn bhp bport bopq bpn bpl bhq bq bhf bfg false false []))).opq (((RS.init (an l)).aw (RS.mk bsc bus bpw bhk bhs bhn bhp bport bopq bpn bpl bhq bq bhf bfg false false []))).pn (((RS.init (an l)).aw (RS.mk bsc bus bpw bhk bhs bhn bhp bport bopq bpn bpl bhq bq bhf bfg false false []))).pl (((RS.init (an l)).aw (RS.mk bsc bus bpw bhk bhs bhn bhp bport bopq bpn bpl bhq bq bhf bfg false false []))).hq (((RS.init (an l)).aw (RS.mk bsc bus bpw bhk bhs bhn bhp bport bopq bpn bpl bhq bq bhf bfg false false []))).q (((RS.init (an l)).aw (RS.mk bsc bus bpw bhk bhs bhn bhp bport bopq bpn bpl bhq bq bhf bfg false false []))).hf (((RS.init (an l)).aw (RS.mk bsc bus bpw bhk bhs bhn bhp bport bopq bpn bpl bhq bq bhf bfg false false []))).fg,.int .i64 0]) [bG 0 bsc bus bpw bhk bhs bhn bhp bport bopq bpn bpl bhq bq bhf bfg]:=bH (by kernel_rfl) yK (H:=yJ l bsc bus bpw bhk bhs bhn bhp bport bopq bpn bpl bhq bq bhf bfg) (fuel:=1000) Tryz.func30 (by kernel_rfl) (Nat.le_of_ble_eq_true rfl) fun hpre=>(Eo l bsc bus bpw bhk bhs bhn bhp bport bopq bpn bpl bhq bq bhf bfg _).mpr (by
 obtain ⟨h1,h2,h3,h4,h5,h6,h7,h8⟩:=hpre
 have hs:=od l
 exact ⟨fun h=>absurd (of_decide_eq_true h) (by unfold al;omega),fun _=>⟨h1,⟨by omega,h2,h3,h4,h5,h6,h7,h8⟩,(fun h=>absurd h (by decide)),fun _=>⟨rfl,rfl⟩⟩⟩)
theorem Ep(l:Bs)(bsc bus bpw:Bs)(bhk:Int)(bhs:Bs)(bhn:Int)(bhp:List Int)(bport:Int)(bopq bpn:Bool)(bpl:List Bs)(bhq:Bool)(bq:Bs)(bhf:Bool)(bfg:Bs):ag Tryz.prog aA 30 [.str l,.ptr 0 0,bG 0 bsc bus bpw bhk bhs bhn bhp bport bopq bpn bpl bhq bq bhf bfg] ⟨l.length≤60000∧bpl.length≤100000∧(ab (an l) (an l) 0).2.2=false∧bopq=false∧bsc=fL∧az (ay bsc) (an l) 0=false∧bT (an l)=false∧bC (an l)=false,.tup [.tup [bG 0 (((RS.init (an l)).aw (RS.mk bsc bus bpw bhk bhs bhn bhp bport bopq bpn bpl bhq bq bhf bfg false false []))).sc (((RS.init (an l)).aw (RS.mk bsc bus bpw bhk bhs bhn bhp bport bopq bpn bpl bhq bq bhf bfg false false []))).us (((RS.init (an l)).aw (RS.mk bsc bus bpw bhk bhs bhn bhp bport bopq bpn bpl bhq bq bhf bfg false false []))).pw (((RS.init (an l)).aw (RS.mk bsc bus bpw bhk bhs bhn bhp bport bopq bpn bpl bhq bq bhf bfg false false []))).hk (((RS.init (an l)).aw (RS.mk bsc bus bpw bhk bhs bhn bhp bport bopq bpn bpl bhq bq bhf bfg false false []))).hs (((RS.init (an l)).aw (RS.mk bsc bus bpw bhk bhs bhn bhp bport bopq bpn bpl bhq bq bhf bfg false false []))).hn (((RS.init (an l)).aw (RS.mk bsc bus bpw bhk bhs bhn bhp bport bopq bpn bpl bhq bq bhf bfg false false []))).hp (((RS.init (an l)).aw (RS.mk bsc bus bpw bhk bhs bhn bhp bport bopq bpn bpl bhq bq bhf bfg false false []))).port (((RS.init (an l)).aw (RS.mk bsc bus bpw bhk bhs bhn bhp bport bopq bpn bpl bhq bq bhf bfg false false []))).opq (((RS.init (an l)).aw (RS.mk bsc bus bpw bhk bhs bhn bhp bport bopq bpn bpl bhq bq bhf bfg false false []))).pn (((RS.init (an l)).aw (RS.mk bsc bus bpw bhk bhs bhn bhp bport bopq bpn bpl bhq bq bhf bfg false false []))).pl (((RS.init (an l)).aw (RS.mk bsc bus bpw bhk bhs bhn bhp bport bopq bpn bpl bhq bq bhf bfg false false []))).hq (((RS.init (an l)).aw (RS.mk bsc bus bpw bhk bhs bhn bhp bport bopq bpn bpl bhq bq bhf bfg false false []))).q (((RS.init (an l)).aw (RS.mk bsc bus bpw bhk bhs bhn bhp bport bopq bpn bpl bhq bq bhf bfg false false []))).hf (((RS.init (an l)).aw (RS.mk bsc bus bpw bhk bhs bhn bhp bport bopq bpn bpl bhq bq bhf bfg false false []))).fg,.int .i64 0],bG 0 bsc bus bpw bhk bhs bhn bhp bport bopq bpn bpl bhq bq bhf bfg]⟩:=ag.bd (fun h=>by have e:List.isEmpty (PV.aB PV.bD [.str l,.ptr 0 0,bG 0 bsc bus bpw bhk bhs bhn bhp bport bopq bpn bpl bhq bq bhf bfg])=false:=(by kernel_rfl);exact Bool.noConfusion (e.symm.trans (congrArg List.isEmpty h))) (yL l bsc bus bpw bhk bhs bhn bhp bport bopq bpn bpl bhq bq bhf bfg)
def lI:List PV→Option aI:=fun xs=>match xs with
 |[.str l,.ptr 0 0,bG 0 bsc bus bpw bhk bhs bhn bhp bport bopq bpn bpl bhq bq bhf bfg]=>some ⟨l.length≤60000∧bpl.length≤100000∧(ab (an l) (an l) 0).2.2=false∧bopq=false∧bsc=fL∧az (ay bsc) (an l) 0=false∧bT (an l)=false∧bC (an l)=false,.tup [.tup [bG 0 (((RS.init (an l)).aw (RS.mk bsc bus bpw bhk bhs bhn bhp bport bopq bpn bpl bhq bq bhf bfg false false []))).sc (((RS.init (an l)).aw (RS.mk bsc bus bpw bhk bhs bhn bhp bport bopq bpn bpl bhq bq bhf bfg false false []))).us (((RS.init (an l)).aw (RS.mk bsc bus bpw bhk bhs bhn bhp bport bopq bpn bpl bhq bq bhf bfg false false []))).pw (((RS.init (an l)).aw (RS.mk bsc bus bpw bhk bhs bhn bhp bport bopq bpn bpl bhq bq bhf bfg false false []))).hk (((RS.init (an l)).aw (RS.mk bsc bus bpw bhk bhs bhn bhp bport bopq bpn bpl bhq bq bhf bfg false false []))).hs (((RS.init (an l)).aw (RS.mk bsc bus bpw bhk bhs bhn bhp bport bopq bpn bpl bhq bq bhf bfg false false []))).hn (((RS.init (an l)).aw (RS.mk bsc bus bpw bhk bhs bhn bhp bport bopq bpn bpl bhq bq bhf bfg false false []))).hp (((RS.init (an l)).aw (RS.mk bsc bus bpw bhk bhs bhn bhp bport bopq bpn bpl bhq bq bhf bfg false false []))).port (((RS.init (an l)).aw (RS.mk bsc bus bpw bhk bhs bhn bhp bport bopq bpn bpl bhq bq bhf bfg false false []))).opq (((RS.init (an l)).aw (RS.mk bsc bus bpw bhk bhs bhn bhp bport bopq bpn bpl bhq bq bhf bfg false false []))).pn (((RS.init (an l)).aw (RS.mk bsc bus bpw bhk bhs bhn bhp bport bopq bpn bpl bhq bq bhf bfg false false []))).pl (((RS.init (an l)).aw (RS.mk bsc bus bpw bhk bhs bhn bhp bport bopq bpn bpl bhq bq bhf bfg false false []))).hq (((RS.init (an l)).aw (RS.mk bsc bus bpw bhk bhs bhn bhp bport bopq bpn bpl bhq bq bhf bfg false false []))).q (((RS.init (an l)).aw (RS.mk bsc bus bpw bhk bhs bhn bhp bport bopq bpn bpl bhq bq bhf bfg false false []))).hf (((RS.init (an l)).aw (RS.mk bsc bus bpw bhk bhs bhn bhp bport bopq bpn bpl bhq bq bhf bfg false false []))).fg,.int .i64 0],bG 0 bsc bus bpw bhk bhs bhn bhp bport bopq bpn bpl bhq bq bhf bfg]⟩
 |_=>none
theorem sD:∀xs c,lI xs=some c→ag Tryz.prog aA 30 xs c:=fun xs c h=>by
 unfold lI at h
 split at h
 ·injection h with h;subst h;exact Ep _ _ _ _ _ _ _ _ _ _ _ _ _ _ _ _
 ·cases h
end
section
def yM:cq:=bR [(30,lI)]
def yN(l:Bs)(bsc bus bpw:Bs)(bhk:Int)(bhs:Bs)(bhn:Int)(bhp:List Int)(bport:Int)(bopq bpn:Bool)(bpl:List Bs)(bhq:Bool)(bq:Bs)(bhf:Bool)(bfg:Bs):ba:=fun i=>none
theorem yO:cS Tryz.prog aA yM:=ai sD (ax)
theorem Er(l:Bs)(bsc bus bpw:Bs)(bhk:Int)(bhs:Bs)(bhn:Int)(bhp:List Int)(bport:Int)(bopq bpn:Bool)(bpl:List Bs)(bhq:Bool)(bq:Bs)(bhf:Bool)(bfg:Bs)(k:PV→Prop):cD Tryz.prog yM aA (yN l bsc bus bpw bhk bhs bhn bhp bport bopq bpn bpl bhq bq bhf bfg) 1000 Tryz.f21 [.str l,bG 0 bsc bus bpw bhk bhs bhn bhp bport bopq bpn bpl bhq bq bhf bfg] k=(
 (List.length l≤(60000:Nat)∧
 bpl.length≤(100000:Nat)∧
 (ab (an l) (an l)
 (0:Nat)).2.2=
 false∧
 bopq=false∧
 bsc=fL∧
 az (ay bsc) (an l) (0:Int)=
 false∧
 bT (an l)=false∧
 bC (an l)=false)∧
 k
 (PV.tup
 [bG (0:Nat) ((RS.init (an l)).aw
 (RS.mk bsc bus bpw bhk bhs bhn bhp bport bopq bpn bpl bhq bq bhf bfg false false [])).sc ((RS.init (an l)).aw
 (RS.mk bsc bus bpw bhk bhs bhn bhp bport bopq bpn bpl bhq bq bhf bfg false false [])).us ((RS.init (an l)).aw
 (RS.mk bsc bus bpw bhk bhs bhn bhp bport bopq bpn bpl bhq bq bhf bfg false false [])).pw ((RS.init (an l)).aw
 (RS.mk bsc bus bpw bhk bhs bhn bhp bport bopq bpn bpl bhq bq bhf bfg false false [])).hk ((RS.init (an l)).aw
 (RS.mk bsc bus bpw bhk bhs bhn bhp bport bopq bpn bpl bhq bq bhf bfg false false [])).hs ((RS.init (an l)).aw
 (RS.mk bsc bus bpw bhk bhs bhn bhp bport bopq bpn bpl bhq bq bhf bfg false false [])).hn ((RS.init (an l)).aw
 (RS.mk bsc bus bpw bhk bhs bhn bhp bport bopq bpn bpl bhq bq bhf bfg false false [])).hp ((RS.init (an l)).aw
 (RS.mk bsc bus bpw bhk bhs bhn bhp bport bopq bpn bpl bhq bq bhf bfg false false [])).port ((RS.init (an l)).aw
 (RS.mk bsc bus bpw bhk bhs bhn bhp bport bopq bpn bpl bhq bq bhf bfg false false [])).opq ((RS.init (an l)).aw
 (RS.mk bsc bus bpw bhk bhs bhn bhp bport bopq bpn bpl bhq bq bhf bfg false false [])).pn ((RS.init (an l)).aw
 (RS.mk bsc bus bpw bhk bhs bhn bhp bport bopq bpn bpl bhq bq bhf bfg false false [])).pl ((RS.init (an l)).aw
 (RS.mk bsc bus bpw bhk bhs bhn bhp bport bopq bpn bpl bhq bq bhf bfg false false [])).hq ((RS.init (an l)).aw
 (RS.mk bsc bus bpw bhk bhs bhn bhp bport bopq bpn bpl bhq bq bhf bfg false false [])).q ((RS.init (an l)).aw
 (RS.mk bsc bus bpw bhk bhs bhn bhp bport bopq bpn bpl bhq bq bhf bfg false false [])).hf ((RS.init (an l)).aw
 (RS.mk bsc bus bpw bhk bhs bhn bhp bport bopq bpn bpl bhq bq bhf bfg false false [])).fg,
 PV.int .i64 (0:Int)])):=by kernel_rfl
attribute [local irreducible] Go.Vc.cD
theorem Es(l:Bs)(bsc bus bpw:Bs)(bhk:Int)(bhs:Bs)(bhn:Int)(bhp:List Int)(bport:Int)(bopq bpn:Bool)(bpl:List Bs)(bhq:Bool)(bq:Bs)(bhf:Bool)(bfg:Bs):ag Tryz.prog aA 21 [.str l,bG 0 bsc bus bpw bhk bhs bhn bhp bport bopq bpn bpl bhq bq bhf bfg] ⟨l.length≤60000∧bpl.length≤100000∧(ab (an l) (an l) 0).2.2=false∧bopq=false∧bsc=fL∧az (ay bsc) (an l) 0=false∧bT (an l)=false∧bC (an l)=false,.tup [bG 0 (((RS.init (an l)).aw (RS.mk bsc bus bpw bhk bhs bhn bhp bport bopq bpn bpl bhq bq bhf bfg false false []))).sc (((RS.init (an l)).aw (RS.mk bsc bus bpw bhk bhs bhn bhp bport bopq bpn bpl bhq bq bhf bfg false false []))).us (((RS.init (an l)).aw (RS.mk bsc bus bpw bhk bhs bhn bhp bport bopq bpn bpl bhq bq bhf bfg false false []))).pw (((RS.init (an l)).aw (RS.mk bsc bus bpw bhk bhs bhn bhp bport bopq bpn bpl bhq bq bhf bfg false false []))).hk (((RS.init (an l)).aw (RS.mk bsc bus bpw bhk bhs bhn bhp bport bopq bpn bpl bhq bq bhf bfg false false []))).hs (((RS.init (an l)).aw (RS.mk bsc bus bpw bhk bhs bhn bhp bport bopq bpn bpl bhq bq bhf bfg false false []))).hn (((RS.init (an l)).aw (RS.mk bsc bus bpw bhk bhs bhn bhp bport bopq bpn bpl bhq bq bhf bfg false false []))).hp (((RS.init (an l)).aw (RS.mk bsc bus bpw bhk bhs bhn bhp bport bopq bpn bpl bhq bq bhf bfg false false []))).port (((RS.init (an l)).aw (RS.mk bsc bus bpw bhk bhs bhn bhp bport bopq bpn bpl bhq bq bhf bfg false false []))).opq (((RS.init (an l)).aw (RS.mk bsc bus bpw bhk bhs bhn bhp bport bopq bpn bpl bhq bq bhf bfg false false []))).pn (((RS.init (an l)).aw (RS.mk bsc bus bpw bhk bhs bhn bhp bport bopq bpn bpl bhq bq bhf bfg false false []))).pl (((RS.init (an l)).aw (RS.mk bsc bus bpw bhk bhs bhn bhp bport bopq bpn bpl bhq bq bhf bfg false false []))).hq (((RS.init (an l)).aw (RS.mk bsc bus bpw bhk bhs bhn bhp bport bopq bpn bpl bhq bq bhf bfg false false []))).q (((RS.init (an l)).aw (RS.mk bsc bus bpw bhk bhs bhn bhp bport bopq bpn bpl bhq bq bhf bfg false false []))).hf (((RS.init (an l)).aw (RS.mk bsc bus bpw bhk bhs bhn bhp bport bopq bpn bpl bhq bq bhf bfg false false []))).fg,.int .i64 0]⟩:=b5 (by kernel_rfl) yO (H:=yN l bsc bus bpw bhk bhs bhn bhp bport bopq bpn bpl bhq bq bhf bfg) (fuel:=1000) Tryz.func21 (by kernel_rfl) fun hpre=>(Er l bsc bus bpw bhk bhs bhn bhp bport bopq bpn bpl bhq bq bhf bfg _).mpr (by
 exact ⟨hpre,rfl⟩)
end
section
attribute [local instance] K7
noncomputable def cU(l:Bs):RS×Int:=Classical.choose (⟨bM l,rfl⟩:∃x,x=bM l)
theorem kv(l:Bs):cU l=bM l:=Classical.choose_spec (⟨bM l,rfl⟩:∃x,x=bM l)
noncomputable def cL(l:Bs)(b:RS):RS:=Classical.choose (⟨(RS.init (an l)).aw b,rfl⟩:∃x,x=(RS.init (an l)).aw b)
theorem yP(l:Bs)(b:RS):cL l b=(RS.init (an l)).aw b:=Classical.choose_spec (⟨(RS.init (an l)).aw b,rfl⟩:∃x,x=(RS.init (an l)).aw b)
@[irreducible] def vZ (l:Bs):Prop:=l.length≤60000
theorem Et(l:Bs):vZ l=(l.length≤60000):=by unfold vZ;rfl
@[irreducible] def Jn (l:Bs) (bsc bus bpw:Bs) (bhk:Int) (bhs:Bs) (bhn:Int) (bhp:List Int) (bport:Int) (bopq bpn:Bool) (bpl:List Bs) (bhq:Bool) (bq:Bs) (bhf:Bool) (bfg:Bs):Prop:=l.length≤60000∧bpl.length≤100000∧(ab (an l) (an l) 0).2.2=false∧bopq=false∧bsc=fL∧az (ay bsc) (an l) 0=false∧bT (an l)=false∧bC (an l)=false
theorem Jo(l:Bs)(bsc bus bpw:Bs)(bhk:Int)(bhs:Bs)(bhn:Int)(bhp:List Int)(bport:Int)(bopq bpn:Bool)(bpl:List Bs)(bhq:Bool)(bq:Bs)(bhf:Bool)(bfg:Bs):Jn l bsc bus bpw bhk bhs bhn bhp bport bopq bpn bpl bhq bq bhf bfg=(l.length≤60000∧bpl.length≤100000∧(ab (an l) (an l) 0).2.2=false∧bopq=false∧bsc=fL∧az (ay bsc) (an l) 0=false∧bT (an l)=false∧bC (an l)=false):=by unfold Jn;rfl
theorem Eu(l:Bs):ag Tryz.prog aA 19 [.str l] ⟨vZ l,.tup [bG 0 ((cU l).1).sc ((cU l).1).us ((cU l).1).pw ((cU l).1).hk ((cU l).1).hs ((cU l).1).hn ((cU l).1).hp ((cU l).1).port ((cU l).1).opq ((cU l).1).pn ((cU l).1).pl ((cU l).1).hq ((cU l).1).q ((cU l).1).hf ((cU l).1).fg,.int .i64 (cU l).2]⟩:=(Eg l).to (fun h=>by rw [Et]at h;exact h) (fun _=>by rw [kv])
noncomputable def jq:List PV→Option aI:=fun xs=>match xs with
 |[.str l]=>some ⟨vZ l,.tup [bG 0 ((cU l).1).sc ((cU l).1).us ((cU l).1).pw ((cU l).1).hk ((cU l).1).hs ((cU l).1).hn ((cU l).1).hp ((cU l).1).port ((cU l).1).opq ((cU l).1).pn ((cU l).1).pl ((cU l).1).hq ((cU l).1).q ((cU l).1).hf ((cU l).1).fg,.int .i64 (cU l).2]⟩
 |_=>none
theorem kP:∀xs c,jq xs=some c→ag Tryz.prog aA 19 xs c:=fun xs c h=>by
 unfold jq at h
 split at h
 ·injection h with h;subst h;exact Eu _
 ·cases h
theorem Hb(l:Bs)(bsc bus bpw:Bs)(bhk:Int)(bhs:Bs)(bhn:Int)(bhp:List Int)(bport:Int)(bopq bpn:Bool)(bpl:List Bs)(bhq:Bool)(bq:Bs)(bhf:Bool)(bfg:Bs):ag Tryz.prog aA 21 [.str l,bG 0 bsc bus bpw bhk bhs bhn bhp bport bopq bpn bpl bhq bq bhf bfg] ⟨Jn l bsc bus bpw bhk bhs bhn bhp bport bopq bpn bpl bhq bq bhf bfg,.tup [bG 0 ((cL l (RS.mk bsc bus bpw bhk bhs bhn bhp bport bopq bpn bpl bhq bq bhf bfg false false []))).sc ((cL l (RS.mk bsc bus bpw bhk bhs bhn bhp bport bopq bpn bpl bhq bq bhf bfg false false []))).us ((cL l (RS.mk bsc bus bpw bhk bhs bhn bhp bport bopq bpn bpl bhq bq bhf bfg false false []))).pw ((cL l (RS.mk bsc bus bpw bhk bhs bhn bhp bport bopq bpn bpl bhq bq bhf bfg false false []))).hk ((cL l (RS.mk bsc bus bpw bhk bhs bhn bhp bport bopq bpn bpl bhq bq bhf bfg false false []))).hs ((cL l (RS.mk bsc bus bpw bhk bhs bhn bhp bport bopq bpn bpl bhq bq bhf bfg false false []))).hn ((cL l (RS.mk bsc bus bpw bhk bhs bhn bhp bport bopq bpn bpl bhq bq bhf bfg false false []))).hp ((cL l (RS.mk bsc bus bpw bhk bhs bhn bhp bport bopq bpn bpl bhq bq bhf bfg false false []))).port ((cL l (RS.mk bsc bus bpw bhk bhs bhn bhp bport bopq bpn bpl bhq bq bhf bfg false false []))).opq ((cL l (RS.mk bsc bus bpw bhk bhs bhn bhp bport bopq bpn bpl bhq bq bhf bfg false false []))).pn ((cL l (RS.mk bsc bus bpw bhk bhs bhn bhp bport bopq bpn bpl bhq bq bhf bfg false false []))).pl ((cL l (RS.mk bsc bus bpw bhk bhs bhn bhp bport bopq bpn bpl bhq bq bhf bfg false false []))).hq ((cL l (RS.mk bsc bus bpw bhk bhs bhn bhp bport bopq bpn bpl bhq bq bhf bfg false false []))).q ((cL l (RS.mk bsc bus bpw bhk bhs bhn bhp bport bopq bpn bpl bhq bq bhf bfg false false []))).hf ((cL l (RS.mk bsc bus bpw bhk bhs bhn bhp bport bopq bpn bpl bhq bq bhf bfg false false []))).fg,.int .i64 0]⟩:=(Es l bsc bus bpw bhk bhs bhn bhp bport bopq bpn bpl bhq bq bhf bfg).to (fun h=>by rw [Jo]at h;exact h) (fun _=>by rw [yP])
noncomputable def om:List PV→Option aI:=fun xs=>match xs with
 |[.str l,bG 0 bsc bus bpw bhk bhs bhn bhp bport bopq bpn bpl bhq bq bhf bfg]=>some ⟨Jn l bsc bus bpw bhk bhs bhn bhp bport bopq bpn bpl bhq bq bhf bfg,.tup [bG 0 ((cL l (RS.mk bsc bus bpw bhk bhs bhn bhp bport bopq bpn bpl bhq bq bhf bfg false false []))).sc ((cL l (RS.mk bsc bus bpw bhk bhs bhn bhp bport bopq bpn bpl bhq bq bhf bfg false false []))).us ((cL l (RS.mk bsc bus bpw bhk bhs bhn bhp bport bopq bpn bpl bhq bq bhf bfg false false []))).pw ((cL l (RS.mk bsc bus bpw bhk bhs bhn bhp bport bopq bpn bpl bhq bq bhf bfg false false []))).hk ((cL l (RS.mk bsc bus bpw bhk bhs bhn bhp bport bopq bpn bpl bhq bq bhf bfg false false []))).hs ((cL l (RS.mk bsc bus bpw bhk bhs bhn bhp bport bopq bpn bpl bhq bq bhf bfg false false []))).hn ((cL l (RS.mk bsc bus bpw bhk bhs bhn bhp bport bopq bpn bpl bhq bq bhf bfg false false []))).hp ((cL l (RS.mk bsc bus bpw bhk bhs bhn bhp bport bopq bpn bpl bhq bq bhf bfg false false []))).port ((cL l (RS.mk bsc bus bpw bhk bhs bhn bhp bport bopq bpn bpl bhq bq bhf bfg false false []))).opq ((cL l (RS.mk bsc bus bpw bhk bhs bhn bhp bport bopq bpn bpl bhq bq bhf bfg false false []))).pn ((cL l (RS.mk bsc bus bpw bhk bhs bhn bhp bport bopq bpn bpl bhq bq bhf bfg false false []))).pl ((cL l (RS.mk bsc bus bpw bhk bhs bhn bhp bport bopq bpn bpl bhq bq bhf bfg false false []))).hq ((cL l (RS.mk bsc bus bpw bhk bhs bhn bhp bport bopq bpn bpl bhq bq bhf bfg false false []))).q ((cL l (RS.mk bsc bus bpw bhk bhs bhn bhp bport bopq bpn bpl bhq bq bhf bfg false false []))).hf ((cL l (RS.mk bsc bus bpw bhk bhs bhn bhp bport bopq bpn bpl bhq bq bhf bfg false false []))).fg,.int .i64 0]⟩
 |_=>none
theorem v7:∀xs c,om xs=some c→ag Tryz.prog aA 21 xs c:=fun xs c h=>by
 unfold om at h
 split at h
 ·injection h with h;subst h;exact Hb _ _ _ _ _ _ _ _ _ _ _ _ _ _ _ _
 ·cases h
end
section
def L9:Bs:=[72,84,84,80,58,92,92,117,64,104,58,56,48,47,97,47,46,46,47,98,63]
def Ma:Bs:=[102,105,108,101,58,47,47,47,67,58,47,121]
def LJ:Bs:=[46,46,92,120]
def aH:Bs:=[104,116,116,112]
def aV:Bs:=[119,115,115]
noncomputable def oo:RS×Int:=cU L9
noncomputable def oq:RS×Int:=cU Ma
noncomputable def aJ:RS:=cL LJ (RS.mk oq.1.sc oq.1.us oq.1.pw oq.1.hk oq.1.hs oq.1.hn oq.1.hp oq.1.port oq.1.opq oq.1.pn oq.1.pl oq.1.hq oq.1.q oq.1.hf oq.1.fg false false [])
theorem Mg:oo.2=0∧oo.1.sc=aH∧oo.1.us=[117]∧oo.1.port=-1∧oo.1.pl=[[98]]∧oo.1.hq=true:=by
 unfold oo;rw [kv];decide+kernel
theorem Mh:oq.2=0∧oq.1.sc=fL∧oq.1.opq=false∧oq.1.pl.length≤100000:=by
 unfold oq;rw [kv];decide+kernel
theorem Mb:aJ.pl=[[67,58],[120]]:=by
 unfold aJ oq;rw [kv,yP];decide+kernel
noncomputable def Ck:cq:=bR [(19,jq),(21,om),(27,dQ)]
def Cl:ba:=fun i=>none
theorem AZ:cS Tryz.prog aA Ck:=ai kP (ai v7 (ai dR (ax)))
theorem Hc(k:PV→Prop):cD Tryz.prog Ck aA (Cl) 1000 Tryz.f14 [] k=(
 L9.length.le (60000:Nat)∧Ma.length.le (60000:Nat)∧(LJ.length≤(60000:Nat)∧oq.1.pl.length≤(100000:Nat)∧false=false∧oq.1.opq=false∧oq.1.sc=fL∧az (ay oq.1.sc) (an LJ) (0:Int)=false∧bT (an LJ)=false∧bC (an LJ)=false)∧True∧((bif bif bif bif decide (oo.2=(0:Int))then decide (oo.1.sc=aH)else false then decide (oo.1.us=([117]:Bs))else false then decide (oo.1.port=(-1:Int))else false then decide (Int.ofNat oo.1.pl.length=(1:Int))else false)=true→within (0:Int) (Int.ofNat oo.1.pl.length))∧((bif bif bif bif bif bif bif bif bif decide (oo.2=(0:Int))then decide (oo.1.sc=aH)else false then decide (oo.1.us=([117]:Bs))else false then decide (oo.1.port=(-1:Int))else false then decide (Int.ofNat oo.1.pl.length=(1:Int))else false then decide (gY oo.1.pl (0:Int)=([98]:Bs))else false then oo.1.hq else false then decide (oq.2=(0:Int))else false then decide ((0:Int)=(0:Int))else false then decide (Int.ofNat aJ.pl.length=(2:Int))else false)=true→within (1:Int) (Int.ofNat aJ.pl.length))∧k (PV.bool (bif bif bif bif bif bif bif bif bif bif bif bif decide (oo.2=(0:Int))then decide (oo.1.sc=aH)else false then decide (oo.1.us=([117]:Bs))else false then decide (oo.1.port=(-1:Int))else false then decide (Int.ofNat oo.1.pl.length=(1:Int))else false then decide (gY oo.1.pl (0:Int)=([98]:Bs))else false then oo.1.hq else false then decide (oq.2=(0:Int))else false then decide ((0:Int)=(0:Int))else false then decide (Int.ofNat aJ.pl.length=(2:Int))else false then decide (gY aJ.pl (1:Int)=([120]:Bs))else false then decide (IB aV=(443:Int))else false then ay aV else false))):=by kernel_rfl
attribute [local irreducible] Go.Vc.cD
theorem Hd:ag Tryz.prog aA 14 [] ⟨True,.bool true⟩:=b5 (by kernel_rfl) AZ (H:=Cl) (fuel:=1000) Tryz.func14 (by kernel_rfl) fun hpre=>(Hc _).mpr (by
 obtain ⟨h1,h2,h3,h4,h5,h6⟩:=Mg
 obtain ⟨g1,g2,g3,g4⟩:=Mh
 refine ⟨show(21:Nat)≤60000 by decide,show(12:Nat)≤60000 by decide,⟨show(4:Nat)≤60000 by decide,g4,rfl,g3,g2,by rw [g2];decide,by decide,by decide⟩,trivial,fun _=>by rw [h5];exact ⟨by decide,by decide⟩,fun _=>by rw [Mb];exact ⟨by decide,by decide⟩,?_⟩
 rw [h1,h2,h3,h4,h5,h6,g1,Mb]
 exact congrArg PV.bool (by decide+kernel))
def ot:List PV→Option aI:=fun xs=>match xs with
 |[]=>some ⟨True,.bool true⟩
 |_=>none
theorem v8:∀xs c,ot xs=some c→ag Tryz.prog aA 14 xs c:=fun xs c h=>by
 unfold ot at h
 split at h
 ·injection h with h;subst h;exact Hd
 ·cases h
end
section
theorem rP(b:Bool):cE Tryz.prog (4:Nat) (.bool b) (0:Nat)=.bool b:=by cases b<;>kernel_rfl
theorem JR(bs:List Bool){n:Nat}(h:n<bs.length):uk (bs.map PV.bool) (n:Int)=.bool (bs.getD n false):=by
 unfold uk
 rw [Int.toNat_natCast,List.getD_eq_getElem?_getD,List.getD_eq_getElem?_getD,List.getElem?_map,List.getElem?_eq_getElem h];rfl
theorem He(bs:List Bool):al (bs.map PV.bool)=(bs.length:Int):=by unfold al;rw [List.length_map]
theorem LK(bs:List Bool)(n:Nat):(bif decide ((n:Int)<al (bs.map PV.bool))then(cE Tryz.prog (4:Nat) (uk (bs.map PV.bool) (n:Int)) (0:Nat)).asBool else false)=bs.getD n false:=by
 rw [He]
 by_cases h:n<bs.length
 ·rw [JR bs h,rP,decide_eq_true (by omega)];rfl
 ·rw [decide_eq_false (by omega),List.getD_eq_getElem?_getD,List.getElem?_eq_none (by omega)];rfl
theorem Jp(bs:List Bool)(n:Nat)(h:decide ((n:Int)<al (bs.map PV.bool))=true):cE Tryz.prog (4:Nat) (uk (bs.map PV.bool) (n:Int)) (0:Nat)=PV.bool (cE Tryz.prog (4:Nat) (uk (bs.map PV.bool) (n:Int)) (0:Nat)).asBool:=by
 have h:=of_decide_eq_true h
 rw [He]at h
 rw [JR bs (by omega),rP];rfl
theorem Hf(bs:List Bool)(n:Nat)(X:Bool):(bif bif X then decide ((n:Int)<al (bs.map PV.bool))else false then(cE Tryz.prog (4:Nat) (uk (bs.map PV.bool) (n:Int)) (0:Nat)).asBool else false)=(X&&bs.getD n false):=by
 cases X with
 |true=>exact LK bs n
 |false=>rfl
def Mc:List Bs:=[[104,116,116,112,58],[104,116,116,112,115,58],[119,115,58],[119,115,115,58],[102,116,112,58],[102,105,108,101,58]]
def lJ(a:Int):Bs:=gY Mc (sd a 6)
def Cm(o:Bool)(c:UInt8):Bool:=o&&decide (c≠63)&&decide (c≠35)
def JS(o g:Bool)(c:UInt8):UInt8:=if o=true∧g=true∧c=47 then 92 else if o=true∧g=true∧c=92 then 47 else c
def JT(z:List Bool):Bool→Nat→Bs→Bs
 |_,_,[]=>[]
 |o,i,c::l=>JS (Cm o c) (z.getD i false) c::JT z (Cm o c) (i+1) l
theorem Hg(z:List Bool):∀(l:Bs) (i:Nat),JT z false i l=l
 |[],_=>rfl
 |c::l,i=>by
  show JS (Cm false c) _ c::JT z (Cm false c) (i+1) l=c::l
  have e:Cm false c=false:=rfl
  rw [e,Hg z l];rfl
theorem Hh(z:List Bool):∀(l:Bs) (i:Nat),Sw l (JT z true i l)
 |[],_=>.refl _
 |c::l,i=>by
  show Sw (c::l) (JS (Cm true c) (z.getD i false) c::JT z (Cm true c) (i+1) l)
  by_cases h:c=63∨c=35
  ·have e:Cm true c=false:=by rcases h with h|h<;>rw [h]<;>rfl
   rw [e,Hg]
   exact .refl _
  ·have h1:c≠63:=fun e=>h (.inl e)
   have h2:c≠35:=fun e=>h (.inr e)
   have e:Cm true c=true:=by unfold Cm;simp [h1,h2]
   have ih:=Hh z l (i+1)
   rw [e]
   unfold JS
   split
   ·rename_i g;rw [g.2.2];exact .swap 47 92 (.inl rfl) (.inr rfl) ih
   ·split
    ·rename_i g;rw [g.2.2];exact .swap 92 47 (.inr rfl) (.inl rfl) ih
    ·exact .same c h1 h2 ih
def A0(S r:Bs)(z:List Bool)(t:Bs)(o:Bool)(i:Int):Prop:=∃j:Nat,i=j∧j≤r.length∧t++JT z o j (r.drop j)=S++JT z true 0 r∧t.length≤6+j
theorem KZ(a:Int):∃p:Bs,lJ a=p++[58]∧p≠[]∧(∀b∈p,r9 b=true)∧(∀b∈p,32<b.toNat∧(b.toNat:Int)≤127)∧ay (bE p)=true∧(lJ a).length≤6:=by
 unfold lJ
 have h:=u9 a 6 (by omega)
 generalize sd a 6=K at *
 have:K=0∨K=1∨K=2∨K=3∨K=4∨K=5:=by omega
 rcases this with rfl|rfl|rfl|rfl|rfl|rfl
 ·exact ⟨fH,by decide⟩
 ·exact ⟨fS,by decide⟩
 ·exact ⟨fW,by decide⟩
 ·exact ⟨fV,by decide⟩
 ·exact ⟨fF,by decide⟩
 ·exact ⟨fL,by decide⟩
theorem LL(b:UInt8):bo (b.toNat:Int)=b:=by unfold bo;rw [Int.toNat_natCast];exact UInt8.toNat_inj.1 (by simp)
def RS.K8(r:RS):RS:=RS.mk r.sc r.us r.pw r.hk r.hs r.hn r.hp r.port r.opq r.pn r.pl r.hq r.q r.hf r.fg false false []
noncomputable def yQ:cq:=bR [(17,va),(19,jq),(14,ot),(22,og)]
def yR(a:Int)(r:Bs)(nb:Bool)(eo:List PV)(bs:List Bool):ba:=fun i=>bif Nat.beq i 6 then some ⟨(Bs)×(Bool)×(Int),(fun s x=>((((((((((s.put 8 (.str x.1)).put 9 (.bool x.2.1)).put 10 (.int .i64 x.2.2)).put 11 .undef).put 29 .undef).put 43 .undef).put 44 .undef).put 61 .undef).put 62 .undef).put 79 .undef)),(fun s=>(s.str 8,s.bool 9,s.int 10)),(fun s x=>let t:=x.1;let o:=x.2.1;let i:=x.2.2;A0 (s.str 7) r bs t o i),(fun s x=>let t:=x.1;let o:=x.2.1;let i:=x.2.2;((r.length:Int)-i).toNat),[11,29,43,44,61,62,79]⟩else none
theorem yS:cS Tryz.prog aA yQ:=ai zW (ai kP (ai v8 (ai vV (ax))))
theorem Ev(a:Int)(r:Bs)(nb:Bool)(eo:List PV)(bs:List Bool)(k:PV→Prop):cD Tryz.prog yQ aA (yR a r nb eo bs) 1000 Tryz.f11 [.int .i64 a,.str r,.vec nb 1 eo 0] k=(
 (decide ((100:Int)<al r)=true→True∧k (PV.bool true))∧(decide ((100:Int)<al r)=false→((-9223372036854775808:Int)≤a∧a≤(9223372036854775807:Int)∧(1:Int)≤(6:Int)∧(6:Int)≤(4611686018427387904:Int))∧within (sd a (6:Int)) (Int.ofNat Mc.length)∧VS.mk [] [(0,PV.int .i64 a),(1,PV.str r),(2,PV.vec nb (1:Nat) eo (0:Nat)),(6,PV.bool false),(7,PV.str (lJ a)),(8,PV.str (lJ a)),(9,PV.bool true),(10,PV.int .i64 (0:Int)),((11:Nat),PV.undef),(12,PV.undef),(13,PV.undef),(14,PV.undef),(15,PV.undef),(18,PV.bool (decide ((100:Int)<al r))),((29:Nat),PV.undef),((44:Nat),PV.undef),((62:Nat),PV.undef)] []=VS.mk [] [(0,PV.int .i64 a),(1,PV.str r),(2,PV.vec nb (1:Nat) eo (0:Nat)),(6,PV.bool false),(7,PV.str (lJ a)),((8:Nat),PV.str (lJ a)),((9:Nat),PV.bool true),((10:Nat),PV.int .i64 (0:Int)),((11:Nat),PV.undef),(12,PV.undef),(13,PV.undef),(14,PV.undef),(15,PV.undef),(18,PV.bool (decide ((100:Int)<al r))),((29:Nat),PV.undef),((44:Nat),PV.undef),((62:Nat),PV.undef)] []∧A0 (lJ a) r bs (lJ a) true (0:Int)∧∀(x:Bs×Bool×Int),A0 (lJ a) r bs x.1 x.2.1 x.2.2→(decide (x.2.2<al r)=true→within x.2.2 (al r)∧((bif bif bif bif x.2.1 then !decide (ak r x.2.2=(63:Int))else false then !decide (ak r x.2.2=(35:Int))else false then decide (ak r x.2.2=(47:Int))else false then decide (x.2.2<al eo)else false)=true→within x.2.2 (al eo))∧((bif bif bif bif x.2.1 then !decide (ak r x.2.2=(63:Int))else false then !decide (ak r x.2.2=(35:Int))else false then decide (ak r x.2.2=(47:Int))else false then decide (x.2.2<al eo)else false)=true→cE Go.Proofs.Tryz.prog (4:Nat) (uk eo x.2.2) (0:Nat)=PV.bool (cE Go.Proofs.Tryz.prog (4:Nat) (uk eo x.2.2) (0:Nat)).asBool)∧((bif bif bif bif bif x.2.1 then !decide (ak r x.2.2=(63:Int))else false then !decide (ak r x.2.2=(35:Int))else false then decide (ak r x.2.2=(47:Int))else false then decide (x.2.2<al eo)else false then(cE Go.Proofs.Tryz.prog (4:Nat) (uk eo x.2.2) (0:Nat)).asBool else false)=true→jr [PV.int .u8 (92:Int)]∧List.length x.1+[bo (92:Int)].length≤Go.Vc.maxLen∧aG (x.2.2+(1:Int))∧rR (VS.mk [] [(0,PV.int .i64 a),(1,PV.str r),(2,PV.vec nb (1:Nat) eo (0:Nat)),(6,PV.bool false),(7,PV.str (lJ a)),((8:Nat),PV.str (x.1++[bo (92:Int)])),((9:Nat),PV.bool (bif bif x.2.1 then !decide (ak r x.2.2=(63:Int))else false then !decide (ak r x.2.2=(35:Int))else false)),((10:Nat),PV.int .i64 (x.2.2+(1:Int))),((11:Nat),PV.undef),(12,PV.undef),(13,PV.undef),(14,PV.undef),(15,PV.undef),(18,PV.bool (decide ((100:Int)<al r))),((29:Nat),PV.undef),((44:Nat),PV.undef),((62:Nat),PV.undef)] [])∧A0 (lJ a) r bs (x.1++[bo (92:Int)]) (bif bif x.2.1 then !decide (ak r x.2.2=(63:Int))else false then !decide (ak r x.2.2=(35:Int))else false) (x.2.2+(1:Int))∧(↑(List.length r)-(x.2.2+(1:Int))).toNat<(↑(List.length r)-x.2.2).toNat)∧((bif bif bif bif bif x.2.1 then !decide (ak r x.2.2=(63:Int))else false then !decide (ak r x.2.2=(35:Int))else false then decide (ak r x.2.2=(47:Int))else false then decide (x.2.2<al eo)else false then(cE Go.Proofs.Tryz.prog (4:Nat) (uk eo x.2.2) (0:Nat)).asBool else false)=false→((bif bif bif bif x.2.1 then !decide (ak r x.2.2=(63:Int))else false then !decide (ak r x.2.2=(35:Int))else false then decide (ak r x.2.2=(92:Int))else false then decide (x.2.2<al eo)else false)=true→within x.2.2 (al eo))∧((bif bif bif bif x.2.1 then !decide (ak r x.2.2=(63:Int))else false then !decide (ak r x.2.2=(35:Int))else false then decide (ak r x.2.2=(92:Int))else false then decide (x.2.2<al eo)else false)=true→cE Go.Proofs.Tryz.prog (4:Nat) (uk eo x.2.2) (0:Nat)=PV.bool (cE Go.Proofs.Tryz.prog (4:Nat) (uk eo x.2.2) (0:Nat)).asBool)∧((bif bif bif bif bif x.2.1 then !decide (ak r x.2.2=(63:Int))else false then !decide (ak r x.2.2=(35:Int))else false then decide (ak r x.2.2=(92:Int))else false then decide (x.2.2<al eo)else false then(cE Go.Proofs.Tryz.prog (4:Nat) (uk eo x.2.2) (0:Nat)).asBool else false)=true→jr [PV.int .u8 (47:Int)]∧List.length x.1+[bo (47:Int)].length≤Go.Vc.maxLen∧aG (x.2.2+(1:Int))∧rR (VS.mk [] [(0,PV.int .i64 a),(1,PV.str r),(2,PV.vec nb (1:Nat) eo (0:Nat)),(6,PV.bool false),(7,PV.str (lJ a)),((8:Nat),PV.str (x.1++[bo (47:Int)])),((9:Nat),PV.bool (bif bif x.2.1 then !decide (ak r x.2.2=(63:Int))else false then !decide (ak r x.2.2=(35:Int))else false)),((10:Nat),PV.int .i64 (x.2.2+(1:Int))),((11:Nat),PV.undef),(12,PV.undef),(13,PV.undef),(14,PV.undef),(15,PV.undef),(18,PV.bool (decide ((100:Int)<al r))),((29:Nat),PV.undef),((44:Nat),PV.undef),((62:Nat),PV.undef)] [])∧A0 (lJ a) r bs (x.1++[bo (47:Int)]) (bif bif x.2.1 then !decide (ak r x.2.2=(63:Int))else false then !decide (ak r x.2.2=(35:Int))else false) (x.2.2+(1:Int))∧(↑(List.length r)-(x.2.2+(1:Int))).toNat<(↑(List.length r)-x.2.2).toNat)∧((bif bif bif bif bif x.2.1 then !decide (ak r x.2.2=(63:Int))else false then !decide (ak r x.2.2=(35:Int))else false then decide (ak r x.2.2=(92:Int))else false then decide (x.2.2<al eo)else false then(cE Go.Proofs.Tryz.prog (4:Nat) (uk eo x.2.2) (0:Nat)).asBool else false)=false→jr [PV.int .u8 (ak r x.2.2)]∧List.length x.1+[bo (ak r x.2.2)].length≤Go.Vc.maxLen∧aG (x.2.2+(1:Int))∧rR (VS.mk [] [(0,PV.int .i64 a),(1,PV.str r),(2,PV.vec nb (1:Nat) eo (0:Nat)),(6,PV.bool false),(7,PV.str (lJ a)),((8:Nat),PV.str (x.1++[bo (ak r x.2.2)])),((9:Nat),PV.bool (bif bif x.2.1 then !decide (ak r x.2.2=(63:Int))else false then !decide (ak r x.2.2=(35:Int))else false)),((10:Nat),PV.int .i64 (x.2.2+(1:Int))),((11:Nat),PV.undef),(12,PV.undef),(13,PV.undef),(14,PV.undef),(15,PV.undef),(18,PV.bool (decide ((100:Int)<al r))),((29:Nat),PV.undef),((44:Nat),PV.undef),((62:Nat),PV.undef)] [])∧A0 (lJ a) r bs (x.1++[bo (ak r x.2.2)]) (bif bif x.2.1 then !decide (ak r x.2.2=(63:Int))else false then !decide (ak r x.2.2=(35:Int))else false) (x.2.2+(1:Int))∧(↑(List.length r)-(x.2.2+(1:Int))).toNat<(↑(List.length r)-x.2.2).toNat)))∧(decide (x.2.2<al r)=false→List.length (lJ a)+List.length r≤Go.Vc.maxLen∧(List.length (lJ a++r)).le (60000:Nat)∧(List.length x.1).le (60000:Nat)∧(decide ((cU (lJ a++r)).2=(cU x.1).2)=true→(cU (lJ a++r)).1.pl.length.le (1000000:Nat))∧((bif decide ((cU (lJ a++r)).2=(cU x.1).2)then decide (rM (RS.K8 (cU (lJ a++r)).1) (RS.K8 (cU x.1).1))else false)=true→True)∧k (PV.bool (bif bif decide ((cU (lJ a++r)).2=(cU x.1).2)then decide (rM (RS.K8 (cU (lJ a++r)).1) (RS.K8 (cU x.1).1))else false then true else false))))):=by kernel_rfl
attribute [local irreducible] Go.Vc.cD
theorem Ew(a:Int)(r:Bs)(nb:Bool)(eo:List PV)(bs:List Bool):ag Tryz.prog aA 11 [.int .i64 a,.str r,.vec nb 1 eo 0] ⟨eo=bs.map .bool∧-9223372036854775808≤a∧a≤9223372036854775807,.bool true⟩:=b5 (by kernel_rfl) yS (H:=yR a r nb eo bs) (fuel:=1000) Tryz.func11 (by kernel_rfl) fun hpre=>(Ev a r nb eo bs _).mpr (by
 obtain ⟨hsh,ha⟩:=hpre
 subst hsh
 have mx:∀n:Nat,n≤1000→n≤Go.Vc.maxLen:=fun n h=>Nat.le_trans h (by decide)
 refine ⟨fun _=>⟨trivial,rfl⟩,fun h=>?_⟩
 have hr:r.length≤100:=by have:=of_decide_eq_false h;unfold al at this;omega
 obtain ⟨p,hp,p1,p2,p3,p4,p5⟩:=KZ a
 refine ⟨⟨ha.1,ha.2,by decide,by decide⟩,u9 a 6 (by omega),rfl,⟨0,rfl,by omega,rfl,by omega⟩,fun x hx=>?_⟩
 obtain ⟨t,o,i⟩:=x
 obtain ⟨j,hi,hj,ht,hl⟩:=hx
 dsimp only at hi ht hl⊢
 subst hi
 rw [show al r=(r.length:Int)from rfl]
 refine ⟨fun h=>?_,fun h=>?_⟩
 ·have hjl:j<r.length:=by have:=of_decide_eq_true h;omega
  obtain ⟨c,hc⟩:∃c,r.getD j 0=c:=⟨_,rfl⟩
  have hd:r.drop j=c::r.drop (j+1):=by
   rw [List.drop_eq_getElem_cons hjl,←hc,List.getD_eq_getElem?_getD,List.getElem?_eq_getElem hjl];rfl
  have hb:ak r (j:Int)=c.toNat:=by unfold ak;rw [Int.toNat_natCast,hc]
  rw [hb]
  have q:∀d:UInt8,decide ((c.toNat:Int)=d.toNat)=decide (c=d):=fun d=>by
   rw [decide_eq_decide]
   exact ⟨fun e=>UInt8.toNat_inj.1 (by omega),fun e=>by rw [e]⟩
  have hO:(bif bif o then !decide ((c.toNat:Int)=63)else false then !decide ((c.toNat:Int)=35)else false)=Cm o c:=by
   rw [show decide ((c.toNat:Int)=63)=decide (c=63)from q 63,show decide ((c.toNat:Int)=35)=decide (c=35)from q 35,sb,sb]
   unfold Cm
   rw [decide_not,decide_not]
  rw [hO,show decide ((c.toNat:Int)=47)=decide (c=47)from q 47,show decide ((c.toNat:Int)=92)=decide (c=92)from q 92]
  have nd:∀x:Bool,(bif x then decide ((j:Int)<al (bs.map PV.bool))else false)=true→decide ((j:Int)<al (bs.map PV.bool))=true:=fun x g=>by
   cases x with
   |true=>exact g
   |false=>cases g
  have wi:∀x:Bool,(bif x then decide ((j:Int)<al (bs.map PV.bool))else false)=true→within (j:Int) (al (bs.map PV.bool)):=fun x g=>⟨by omega,of_decide_eq_true (nd x g)⟩
  have nb2:∀x:Bool,(bif x then decide ((j:Int)<al (bs.map PV.bool))else false)=true→_:=fun x g=>Jp bs j (nd x g)
  have hij:aG ((j:Int)+1):=by unfold aG;omega
  have hms:((r.length:Int)-((j:Int)+1)).toNat<((r.length:Int)-(j:Int)).toNat:=by omega
  have len1:∀z:Int,t.length+[bo z].length≤Go.Vc.maxLen:=fun z=>mx _ (by rw [List.length_singleton];omega)
  have nxt:∀z:Int,bo z=JS (Cm o c) (bs.getD j false) c→A0 (lJ a) r bs (t++[bo z]) (Cm o c) ((j:Int)+1):=fun z hz=>by
   refine ⟨j+1,by push_cast;rfl,by omega,?_,by rw [List.length_append,List.length_singleton];omega⟩
   rw [←ht,hd,hz,List.append_assoc];rfl
  rw [Hf,Hf]
  refine ⟨⟨by omega,by omega⟩,wi _,nb2 _,fun g=>⟨⟨by decide,by decide⟩,len1 _,hij,rfl,nxt _ ?_,hms⟩,fun g=>⟨wi _,nb2 _,fun g2=>⟨⟨by decide,by decide⟩,len1 _,hij,rfl,nxt _ ?_,hms⟩,fun g2=>⟨⟨by show(0:Int)≤c.toNat;omega,by show(c.toNat:Int)≤255;have:=c.toNat_lt;omega⟩,len1 _,hij,rfl,nxt _ ?_,hms⟩⟩⟩
  ·rw [sb]at g
   simp only [Bool.and_eq_true,decide_eq_true_eq]at g
   unfold JS
   rw [if_pos ⟨g.1.1,g.2,g.1.2⟩];rfl
  ·rw [sb]at g g2
   simp only [Bool.and_eq_true,decide_eq_true_eq]at g2
   unfold JS
   rw [if_neg (by rintro ⟨-,-,e⟩;rw [g2.1.2]at e;revert e;decide),if_pos ⟨g2.1.1,g2.2,g2.1.2⟩];rfl
  ·rw [sb]at g g2
   rw [LL]
   unfold JS
   rw [if_neg (by rintro ⟨e1,e2,e3⟩;rw [e1,e2,decide_eq_true e3]at g;cases g),if_neg (by rintro ⟨e1,e2,e3⟩;rw [e1,e2,decide_eq_true e3]at g2;cases g2)]
 ·have hge:j=r.length:=by have:=of_decide_eq_false h;omega
  have hte:t=lJ a++JT bs true 0 r:=by rw [←ht,List.drop_eq_nil_iff.2 (by omega)];exact (List.append_nil t).symm
  have hu:bM t=bM (lJ a++r):=by
   have:=Ha p1 p2 p3 p4 (Hh bs r 0)
   rw [hte,hp,List.append_assoc,List.append_assoc]
   exact this
  have pa:=Jm (lJ a++r)
  have sa:=od (lJ a++r)
  rw [List.length_append]at sa
  rw [kv,kv,hu]
  refine ⟨mx _ (by omega),by show List.length _ ≤60000;rw [List.length_append];omega,show t.length≤60000 by omega,fun _=>Nat.le_trans pa (by omega),fun _=>trivial,?_⟩
  have hs:∀z:RS,rM z.K8 z.K8:=fun z=>⟨rfl,rfl,rfl,rfl,rfl,rfl,rfl,rfl,rfl,rfl,rfl,rfl,rfl,rfl⟩
  rw [decide_eq_true (rfl:(bM (lJ a++r)).2=(bM (lJ a++r)).2),decide_eq_true (hs _)]
  rfl)
end
end Go.Proofs.YtmfapopclbnlpaaGreatDoor
