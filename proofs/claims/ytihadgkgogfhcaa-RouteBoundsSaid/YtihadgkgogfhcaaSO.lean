/- Nothing more is known of calls. -/
import Derived.Test.YtihadgkgogfhcaaSN
