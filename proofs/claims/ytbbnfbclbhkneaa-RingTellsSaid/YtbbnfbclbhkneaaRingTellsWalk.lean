/- Layer 4, RingTells: its walk stands in RingAll. -/
import Derived.Test.YtbbnfbclbhkneaaRingAll
